/-
  What becomes of a tree in memory of its own when one of its rows is appended to, or written.
  Kid by kid, each in its place: what it comes to; plain mathematics.
  What shrunk messages do, key by key; plain mathematics.
  Trees side by side: each is right in its place, and tells of each key of its place what it should; plain mathematics.
-/
import Derived.Test.YtcmofojechfccaaGreatOfDrain24
import Derived.Test.YtcmofojechfccaaGreatOfDrain12
namespace Go.Proofs.YtcmofojechfccaaGreat
set_option maxRecDepth 100000
set_option maxHeartbeats 8000000
section
open Go.RowKit

theorem OwnE.block {w:World} {base e size n:Nat} {v:Value} {xs:List Value} (h:OwnE w base e size v n xs):∀g,wrB v g->∃cur,w.heap[g]? =some (.cells cur e (0,0)):=by
 rintro g ⟨k,cap,rfl,hc⟩
 rcases h with h|⟨_,_,g',hg⟩
 ·obtain⟨_,⟨h1,_⟩|⟨g',cap',cur,h1,hg,hh,_⟩⟩:=h
  ·simp at h1
  ·simp at h1
   rw[←h1.1] at hh
   exact⟨cur,hh⟩
 ·simp at hg
  omega
theorem OwnE.apart {w:World} {b1 b2 e1 e2 s1 s2 n1 n2:Nat} {v1 v2:Value} {x1 x2:List Value} (h1:OwnE w b1 e1 s1 v1 n1 x1) (h2:OwnE w b2 e2 s2 v2 n2 x2) (he:e1≠e2):∀g,wrB v1 g->¬wrB v2 g:=by
 intro g k1 k2
 obtain⟨c1,j1⟩:=h1.block g k1
 obtain⟨c2,j2⟩:=h2.block g k2
 rw[j1] at j2
 simp at j2
 exact he j2.2
theorem OwnE.pos {w:World} {base e size n:Nat} {v:Value} {xs:List Value} (h:OwnE w base e size v n xs) (hn:0<n):∃g cap,v= .slice (some ⟨g,0,none⟩) n cap/\0<cap/\n<=cap:=by
 rcases h with h|⟨h,_⟩
 ·obtain⟨g,cap,h1,h2,h3⟩:=h.form hn
  refine⟨g,cap,h1, ?_, ?_⟩
  ·obtain⟨_,⟨k1,_⟩|⟨g',cap',cur,k1,_,_,k4,_⟩⟩:=h
   ·rw[h1] at k1;simp at k1
   ·rw[h1] at k1;simp at k1;omega
  ·obtain⟨_,⟨k1,_⟩|⟨g',cap',cur,k1,_,_,k4,_⟩⟩:=h
   ·rw[h1] at k1;simp at k1
   ·rw[h1] at k1;simp at k1;omega
 ·omega

variable {n:Nat} {w w' :World} {F:Nat->Prop} {lf:Bool} {p c k b:Value} {T:Tr}
end
section
def kbk (f:Nat->TM) (m:TM) (k:Nat):TM:=(sideT f k++m.1.drop k,sideC f m.2 k++m.2.drop (k-1))
theorem kbk_zero (f:Nat->TM) (m:TM):kbk f m 0=m:=by simp[kbk,sideT,sideC]
theorem side_len {f:Nat->TM} {cs:List Int}:∀k,(∀i,i<k->(f i).2.length+1=(f i).1.length)->0<k->(sideC f cs k).length+1=(sideT f k).length
 |0,_,h=>by omega
 |k+1,hf,_=>by
  have h1:=hf k (by omega)
  rcases Nat.eq_zero_or_pos k with h0|h0
  ·subst h0;simp[sideC,sideT];exact h1
  ·have:=side_len (f:=f) (cs:=cs) k (fun i hi=>hf i (by omega)) h0
   rw[sideC,sideT,if_pos h0]
   simp only[List.length_append,List.length_cons,List.length_nil]
   omega
theorem kbk_put {f:Nat->TM} {m:TM} (hm:m.2.length+1=m.1.length) {k:Nat} (hk:k<m.1.length) (hf:∀i,i<k->(f i).2.length+1=(f i).1.length):putM (kbk f m k) (sideT f k).length (f k)=kbk f m (k+1):=by
 have ht:(sideT f k++m.1.drop k).take (sideT f k).length=sideT f k:=by rw[List.take_append_of_le_length (Nat.le_refl _),List.take_length]
 have hd:(sideT f k++m.1.drop k).drop ((sideT f k).length+1)=m.1.drop (k+1):=by
  rw[←List.drop_drop,List.drop_left,List.drop_drop]
 unfold putM kbk
 refine Prod.ext ?_ ?_
 ·show(sideT f k++m.1.drop k).take (sideT f k).length++(f k).1++(sideT f k++m.1.drop k).drop ((sideT f k).length+1)=sideT f (k+1)++m.1.drop (k+1)
  rw[ht,hd,sideT]
 ·show(sideC f m.2 k++m.2.drop (k-1)).take (sideT f k).length++(f k).2++(sideC f m.2 k++m.2.drop (k-1)).drop (sideT f k).length=sideC f m.2 (k+1)++m.2.drop (k+1-1)
  rcases Nat.eq_zero_or_pos k with h0|h0
  ·subst h0;simp[sideC,sideT]
  ·have hl:=side_len (f:=f) (cs:=m.2) k hf h0
   have hdr:m.2.drop (k-1)=iAt m.2 (k-1)::m.2.drop k:=by
    rw[List.drop_eq_getElem_cons (by omega),show k-1+1=k by omega]
    simp[iAt,List.getD,show k-1<m.2.length by omega]
   have t1:∀(A B:List Int) (x:Int),(A++x::B).take (A.length+1)=A++[x]:=fun A B x=>by
    rw[show A++x::B=(A++[x])++B by simp,show A.length+1=(A++[x]).length by simp,List.take_left]
   have t2:∀(A B:List Int) (x:Int),(A++x::B).drop (A.length+1)=B:=fun A B x=>by
    rw[show A++x::B=(A++[x])++B by simp,show A.length+1=(A++[x]).length by simp,List.drop_left]
   rw[hdr,show(sideT f k).length=(sideC f m.2 k).length+1 by omega,t1,t2,sideC,if_pos h0,Nat.add_sub_cancel]
theorem kbk_all {f:Nat->TM} {m:TM} (hm:m.2.length+1=m.1.length):kbk f m m.1.length=bothM f m:=by
 unfold kbk bothM
 rw[List.drop_length,List.append_nil,List.drop_of_length_le (by omega),List.append_nil]
theorem kbk_len {f:Nat->TM} {m:TM} (hm:m.2.length+1=m.1.length):∀k,k<=m.1.length->(∀i,i<k->(f i).2.length+1=(f i).1.length)->(kbk f m k).2.length+1=(kbk f m k).1.length:=by
 intro k hk hf
 rcases Nat.eq_zero_or_pos k with h0|h0
 ·subst h0;rw[kbk_zero];exact hm
 ·have:=side_len (f:=f) (cs:=m.2) k hf h0
  simp only[kbk,List.length_append,List.length_drop]
  omega
end
section
def effK (k:Int) (s:Int × Bool) (m:Int × Int × Int):Int × Bool:=
 if m.2.1=k then (if m.1=1 then (m.2.2,true) else if m.1=2 then (0,false) else if m.1=3 then (clampI (s.1+m.2.2),true) else s) else s
theorem effK_other {k:Int} {s:Int × Bool} {m:Int × Int × Int} (h:m.2.1≠k):effK k s m=s:=by rw[effK,if_neg h]
theorem effK_fold_other {k:Int} (l:ML) (h:∀m∈l,m.2.1≠k) (s:Int × Bool):l.foldl (effK k) s=s:=by
 induction l generalizing s with
 |nil=>rfl
 |cons m l ih=>rw[List.foldl_cons,effK_other (h m (by simp))];exact ih (fun q hq=>h q (by simp[hq])) s
theorem over_forgets {k:Int} (l:ML) (h:overB l k=true) (s s' :Int × Bool):(okMs l).foldl (effK k) s=(okMs l).foldl (effK k) s' :=by
 induction l generalizing s s' with
 |nil=>simp[overB] at h
 |cons m l ih=>
  rw[overB,List.any_cons, ← overB,Bool.or_eq_true] at h
  by_cases h1:okM m=true
  ·rw[okMs,List.filter_cons_of_pos h1,List.foldl_cons,List.foldl_cons]
   rcases h with h|h
   ·simp only[h1,Bool.true_and,Bool.and_eq_true,beq_iff_eq,rulB,Bool.or_eq_true] at h
    have e:effK k s m=effK k s' m:=by
     unfold effK
     rw[if_pos h.1,if_pos h.1]
     rcases h.2 with h2|h2
     ·rw[if_pos h2,if_pos h2]
     ·have h3:m.1≠1:=by omega
      rw[if_neg h3,if_neg h3,if_pos h2,if_pos h2]
    rw[e]
   ·exact ih h _ _
  ·rw[okMs,List.filter_cons_of_neg h1]
   rcases h with h|h
   ·simp[h1] at h
   ·exact ih h _ _
theorem kept_eff (k:Int) (l:ML) (s:Int × Bool):(keptF l).foldl (effK k) s=(okMs l).foldl (effK k) s:=by
 induction l generalizing s with
 |nil=>rfl
 |cons m l ih=>
  rw[keptF]
  by_cases h1:okM m=true
  ·have e:okMs (m::l)=m::okMs l:=by rw[okMs,List.filter_cons_of_pos h1];rfl
   rw[e,List.foldl_cons]
   by_cases h2:m.1=4
   ·rw[if_neg (by simp[h2]),ih]
    have:effK k s m=s:=by simp[effK,h2]
    rw[this]
   ·cases hb:overB l m.2.1
    ·rw[if_pos ⟨h1,h2,rfl⟩,List.foldl_cons,ih]
    ·rw[if_neg (by simp),ih]
     by_cases hk:m.2.1=k
     ·subst hk;exact over_forgets l hb _ _
     ·rw[effK_other hk]
  ·have e:okMs (m::l)=okMs l:=by rw[okMs,List.filter_cons_of_neg h1];rfl
   rw[if_neg (by simp[h1]),e,ih]

def Good (A:ML):Prop:=A.Pairwise fun a b=>a.2.1=b.2.1->a.1≠1/\rulB b=false
theorem joins_spec {A:ML} {m:Int × Int × Int} (h:joinsB A m=true):m.1=3/\∃n,firstI A m.2.1=(n:Nat)/\n<A.length/\mK A n=m.2.1/\mO A n=1:=by
 simp only[joinsB,Bool.and_eq_true,decide_eq_true_eq,beq_iff_eq] at h
 obtain⟨h0,h1,h3⟩:=h
 refine⟨h3, ?_⟩
 rcases firstI_spec A m.2.1 with⟨q,_⟩|⟨n,q1,q2,q3,q4⟩
 ·omega
 ·exact⟨n,q1,q2,q3,by rw[q1] at h1;simpa using h1⟩
theorem Good.parts {X Y:ML} {p:Int × Int × Int} (h:Good (X++p::Y)):Good X/\(∀b∈Y,p.2.1=b.2.1->p.1≠1/\rulB b=false)/\Good Y/\(∀a∈X,(a.2.1=p.2.1->a.1≠1/\rulB p=false)/\∀b∈Y,a.2.1=b.2.1->a.1≠1/\rulB b=false):=by
 obtain⟨h1,h2,h3⟩:=List.pairwise_append.1 h
 obtain⟨h4,h5⟩:=List.pairwise_cons.1 h2
 exact⟨h1,h4,h5,fun a ha=>⟨h3 a ha p (by simp),fun b hb=>h3 a ha b (by simp[hb])⟩⟩
theorem Good.mk {X Y:ML} {p:Int × Int × Int} (h1:Good X) (h4:∀b∈Y,p.2.1=b.2.1->p.1≠1/\rulB b=false) (h5:Good Y) (h3:∀a∈X,(a.2.1=p.2.1->a.1≠1/\rulB p=false)/\∀b∈Y,a.2.1=b.2.1->a.1≠1/\rulB b=false):Good (X++p::Y):=by
 refine List.pairwise_append.2 ⟨h1,List.pairwise_cons.2 ⟨h4,h5⟩,fun a ha b hb=> ?_⟩
 rcases List.mem_cons.1 hb with rfl|hb
 ·exact(h3 a ha).1
 ·exact(h3 a ha).2 b hb
theorem split_at (A:ML) {n:Nat} (h:n<A.length):A=A.take n++(mO A n,mK A n,mV A n)::A.drop (n+1):=by
 have e:=List.drop_eq_getElem_cons h
 rw[ml_at A n h] at e
 rw[←e,List.take_append_drop]
theorem step_set {A:ML} {m:Int × Int × Int} {n:Nat} (hj:joinsB A m=true) (hf:firstI A m.2.1=(n:Nat)) (hn:n<A.length) (hk:mK A n=m.2.1) (ho:mO A n=1) :
  stepS A m=A.take n++(1,m.2.1,clampI (mV A n+m.2.2))::A.drop (n+1):=by
 rw[stepS,if_pos hj,hf,Int.toNat_natCast,ho,hk,List.set_eq_take_append_cons_drop,if_pos hn]
theorem good_step {A:ML} (hA:Good A) {m:Int × Int × Int} (hm:okN m) (hr:rulB m=true->∀a∈A,a.2.1≠m.2.1):Good (stepS A m):=by
 cases hj:joinsB A m
 ·have e:stepS A m=A++[m]:=by rw[stepS,hj];rfl
  rw[e]
  refine Good.mk hA (fun b hb=>by simp at hb) List.Pairwise.nil (fun a ha=>⟨fun he=> ?_,fun b hb=>by simp at hb⟩)
  have hnr:rulB m=false:=by
   cases hb:rulB m
   ·rfl
   ·exact absurd he (hr hb a ha)
  refine⟨fun h1=> ?_,hnr⟩
  have h3:m.1=3:=by
   have:=(msgOkB_in hm.1).1
   have h4:=hm.2
   simp only[rulB,Bool.or_eq_false_iff,beq_eq_false_iff_ne] at hnr
   have:=hnr.1;have:=hnr.2
   omega
  rcases firstI_spec A m.2.1 with⟨_,q⟩|⟨n,q1,q2,q3,q4⟩
  ·exact q a ha he
  ·have ho:mO A n≠1:=fun ho=>by
    have:joinsB A m=true:=by simp[joinsB,q1,ho,h3]
    rw[hj] at this;cases this
   obtain⟨i,hi,rfl⟩:=List.getElem_of_mem ha
   rw[ml_at A i hi] at he h1
   simp only at he h1
   have hin:i≠n:=fun e=>by subst e;exact ho h1
   have hlt:¬i<n:=fun hlt=>q4 i hlt he
   have:=List.pairwise_iff_getElem.1 hA n i q2 hi (by omega)
   rw[ml_at A n q2,ml_at A i hi] at this
   have:=(this (by simp only;omega)).2
   simp[rulB,h1] at this
 ·obtain⟨h3,n,q1,q2,q3,q4⟩:=joins_spec hj
  rw[step_set hj q1 q2 q3 q4]
  have hs:=split_at A q2
  rw[q3,q4] at hs
  rw[hs] at hA
  obtain⟨g1,g2,g3,g4⟩:=hA.parts
  exact Good.mk g1 g2 g3 g4
theorem eff_step {A:ML} (hA:Good A) (m:Int × Int × Int) (k:Int) (s:Int × Bool):(stepS A m).foldl (effK k) s=effK k (A.foldl (effK k) s) m:=by
 cases hj:joinsB A m
 ·have e:stepS A m=A++[m]:=by rw[stepS,hj];rfl
  rw[e,List.foldl_append];rfl
 ·obtain⟨h3,n,q1,q2,q3,q4⟩:=joins_spec hj
  rw[step_set hj q1 q2 q3 q4]
  have hs:=split_at A q2
  rw[q3,q4] at hs
  have hA' :=hA
  rw[hs] at hA'
  obtain⟨_,g2,_,_⟩:=hA'.parts
  have hY:∀b∈A.drop (n+1),b.2.1≠m.2.1:=fun b hb he=>(g2 b hb he.symm).1 rfl
  have hA2:A.foldl (effK k) s=(A.drop (n+1)).foldl (effK k) (effK k ((A.take n).foldl (effK k) s) (1,m.2.1,mV A n)):=by
   conv=>lhs;rw[hs]
   rw[List.foldl_append,List.foldl_cons]
  rw[hA2,List.foldl_append,List.foldl_cons]
  by_cases hk:m.2.1=k
  ·subst hk
   rw[effK_fold_other _ hY,effK_fold_other _ hY]
   simp[effK,h3]
  ·rw[effK_other (m:=(1,m.2.1,clampI (mV A n+m.2.2))) hk,effK_other (m:=(1,m.2.1,mV A n)) hk,effK_other (m:=m) hk]
theorem fold_good (l:ML) (hl:NoRul l) (ho:∀m∈l,okN m) (A:ML) (h:Good A) (hA:∀m∈l,rulB m=true->∀a∈A,a.2.1≠m.2.1) (k:Int) (s:Int × Bool) :
  Good (l.foldl stepS A)/\(l.foldl stepS A).foldl (effK k) s=l.foldl (effK k) (A.foldl (effK k) s):=by
 induction l generalizing A with
 |nil=>exact⟨h,rfl⟩
 |cons m l ih=>
  obtain⟨hl1,hl2⟩:=List.pairwise_cons.1 hl
  rw[List.foldl_cons,List.foldl_cons, ← eff_step h]
  refine ih hl2 (fun q hq=>ho q (by simp[hq])) (stepS A m) (good_step h (ho m (by simp)) (hA m (by simp))) (fun q hq hr=> ?_)
  refine step_keys A m q.2.1 (hA q (by simp[hq]) hr) (fun he=> ?_)
  have:=hl1 q hq he
  rw[hr] at this;cases this
theorem shrink_good (ms:ML) (k:Int) (s:Int × Bool):Good (shrinkF ms)/\(shrinkF ms).foldl (effK k) s=(okMs ms).foldl (effK k) s:=by
 have:=fold_good (keptF ms) (kept_norul ms) (fun m hm=>(kept_sub ms m hm).2) [] List.Pairwise.nil (fun m _ _ a ha=>by simp at ha) k s
 rw[←kept_eff]
 exact this
theorem okMs_shrink (ms:ML):okMs (shrinkF ms)=shrinkF ms:=List.filter_eq_self.2 (fun a ha=>(shrinkF_ok ms a ha).1)
theorem eff_upd (k:Int) (ms:ML) (s:Int × Bool):(okMs ms).foldl (effK k) s=updA s (ofK ms k):=by
 induction ms generalizing s with
 |nil=>rfl
 |cons m ms ih=>
  by_cases hk:m.2.1=k
  ·have e2:ofK (m::ms) k=m::ofK ms k:=by simp[ofK,hk]
   rw[e2]
   show _=updA (updV s m) (ofK ms k)
   by_cases h1:okM m=true
   ·have e:okMs (m::ms)=m::okMs ms:=by rw[okMs,List.filter_cons_of_pos h1];rfl
    rw[e,List.foldl_cons,ih]
    congr 1
    have h1' :msgOkB m.1 m.2.1 m.2.2=true:=h1
    unfold effK updV
    rw[if_pos hk,if_pos h1']
   ·have e:okMs (m::ms)=okMs ms:=by rw[okMs,List.filter_cons_of_neg h1];rfl
    have h1' :¬msgOkB m.1 m.2.1 m.2.2=true:=h1
    rw[e,ih,updV,if_neg h1']
  ·have e2:ofK (m::ms) k=ofK ms k:=by simp[ofK,hk]
   rw[e2]
   by_cases h1:okM m=true
   ·have e:okMs (m::ms)=m::okMs ms:=by rw[okMs,List.filter_cons_of_pos h1];rfl
    rw[e,List.foldl_cons,effK_other hk,ih]
   ·have e:okMs (m::ms)=okMs ms:=by rw[okMs,List.filter_cons_of_neg h1];rfl
    rw[e,ih]
theorem upd_shrink (k:Int) (ms:ML) (s:Int × Bool):updA s (ofK (shrinkF ms) k)=updA s (ofK ms k):=by
 rw[←eff_upd, ← eff_upd,okMs_shrink]
 exact(shrink_good ms k s).2
theorem foldS_keys (k:Int):∀(l A:ML),(∀m∈l,m.2.1≠k)->(∀a∈A,a.2.1≠k)->∀a∈l.foldl stepS A,a.2.1≠k
 |[],_,_,hA=>hA
 |m::l,A,hl,hA=>foldS_keys k l (stepS A m) (fun q hq=>hl q (List.mem_cons_of_mem _ hq)) (step_keys A m k hA (hl m List.mem_cons_self))
theorem shrink_keys {ms:ML} {a:Int × Int × Int} (h:a∈shrinkF ms):∃m∈ms,m.2.1=a.2.1:=by
 refine Classical.byContradiction fun hn=> ?_
 have h1:∀m∈keptF ms,m.2.1≠a.2.1:=fun m hm he=>hn ⟨m,(kept_sub ms m hm).1,he⟩
 exact foldS_keys a.2.1 (keptF ms) [] h1 (fun x hx=>by simp at hx) a h rfl
end
section
def Rt (d:Nat) (f:Int->Int × Bool) (lo hi:Int) (t:Tr):Prop:=depthF d t lo hi=d/\∀k,lo<=k->k<hi->valF d t k=f k
def Seg (d:Nat) (f:Int->Int × Bool):Int->Int->List Int->List Tr->Prop
 |lo,hi,[],[t]=>Rt d f lo hi t
 |lo,hi,c::cs,t::ts=>Rt d f lo c t/\lo<c/\c<hi/\Seg d f c hi cs ts
 |_,_,_,_=>False
def MsIn (lo hi:Int) (ms:ML):Prop:=∀m∈ms,okN m/\lo<=m.2.1/\m.2.1<hi
def CsIn (lo hi:Int) (cs:List Int):Prop:=∀i,i<cs.length->frC cs lo i<iAt cs i/\iAt cs i<hi

variable {d:Nat} {f g h:Int->Int × Bool}

theorem Rt.congr {lo hi:Int} {t:Tr} (a:Rt d f lo hi t) (e:∀k,lo<=k->k<hi->f k=g k):Rt d g lo hi t:=⟨a.1,fun k h1 h2=>(a.2 k h1 h2).trans (e k h1 h2)⟩
theorem Seg.len:∀ {cs:List Int} {lo hi:Int} {ts:List Tr},Seg d f lo hi cs ts->cs.length+1=ts.length
 |[],_,_,[_],_=>rfl
 |[],_,_,[],a=>a.elim
 |[],_,_,_::_::_,a=>a.elim
 |_::_,_,_,[],a=>a.elim
 |_::cs,_,_,_::ts,⟨_,_,_,a⟩=>by have:=a.len;simp only[List.length_cons];omega
theorem Seg.congr:∀ {cs:List Int} {lo hi:Int} {ts:List Tr},Seg d f lo hi cs ts->(∀k,lo<=k->k<hi->f k=g k)->Seg d g lo hi cs ts
 |[],_,_,[_],a,e=>Rt.congr a e
 |[],_,_,[],a,_=>a.elim
 |[],_,_,_::_::_,a,_=>a.elim
 |_::_,_,_,[],a,_=>a.elim
 |_::_,_,_,_::_,⟨a,b,c,r⟩,e=>⟨a.congr fun k h1 h2=>e k h1 (by omega),b,c,r.congr fun k h1 h2=>e k (by omega) h2⟩
theorem Seg.append:∀ {cs1:List Int} {lo c hi:Int} {ts1:List Tr} {cs2:List Int} {ts2:List Tr},Seg d f lo c cs1 ts1->lo<c->c<hi->Seg d f c hi cs2 ts2->Seg d f lo hi (cs1++c::cs2) (ts1++ts2)
 |[],_,_,_,[_],_,_,a,h1,h2,r=>⟨a,h1,h2,r⟩
 |[],_,_,_,[],_,_,a,_,_,_=>a.elim
 |[],_,_,_,_::_::_,_,_,a,_,_,_=>a.elim
 |_::_,_,_,_,[],_,_,a,_,_,_=>a.elim
 |_::_,_,_,_,_::_,_,_,⟨a,b,c0,r0⟩,_,h2,r=>⟨a,b,by omega,r0.append c0 h2 r⟩
theorem Seg.drop:∀ {i:Nat} {cs:List Int} {lo hi:Int} {ts:List Tr},Seg d f lo hi cs ts->i<ts.length->Seg d f (frC cs lo i) hi (cs.drop i) (ts.drop i)
 |0,_,_,_,_,a,_=>a
 |i+1,[],_,_,ts,a,hi0=>by have:=a.len;simp at this;omega
 |_+1,_::_,_,_,[],a,_=>a.elim
 |i+1,c::cs,lo,hi,t::ts,⟨_,_,_,r⟩,hi0=>by
  have:=r.drop (i:=i) (by simpa using hi0)
  rw[List.drop_succ_cons,List.drop_succ_cons]
  cases i with
  |zero=>simpa[frC,iAt] using this
  |succ i=>simpa[frC,iAt] using this
theorem Seg.take:∀ {n:Nat} {cs:List Int} {lo hi:Int} {ts:List Tr},Seg d f lo hi cs ts->n<ts.length->Seg d f lo (toC cs hi n) (cs.take n) (ts.take (n+1))
 |0,[],_,_,[_],a,_=>a
 |_,[],_,_,[],a,_=>a.elim
 |_,[],_,_,_::_::_,a,_=>a.elim
 |_+1,[],_,_,[_],_,hn=>by simp at hn
 |_,_::_,_,_,[],a,_=>a.elim
 |0,_::_,_,_,_::_,⟨a,_,_,_⟩,_=>by simpa[toC,iAt,Seg] using a
 |n+1,c::cs,lo,hi,t::ts,⟨a,b,c0,r⟩,hn=>by
  have h1:=r.take (n:=n) (by simpa using hn)
  have e:toC (c::cs) hi (n+1)=toC cs hi n:=by simp[toC,iAt]
  rw[List.take_succ_cons,List.take_succ_cons,e]
  refine⟨a,b, ?_,h1⟩
  unfold toC
  split
  ·rename_i hlt
   clear h1 e hn a b
   induction cs generalizing c ts n with
   |nil=>simp at hlt
   |cons c1 cs ih=>
    cases ts with
    |nil=>exact r.elim
    |cons t1 ts=>
     obtain⟨_,r1,r2,r3⟩:=r
     cases n with
     |zero=>simpa[iAt] using r1
     |succ n=>
      have:=ih (c:=c1) (ts:=ts) r2 r3 (n:=n) (by simpa using hlt)
      simp only[iAt,List.getD_cons_succ] at this ⊢
      omega
  ·exact c0
theorem Seg.cuts:∀ {cs:List Int} {lo hi:Int} {ts:List Tr},Seg d f lo hi cs ts->CsIn lo hi cs
 |[],_,_,_,_=>fun i h=>by simp at h
 |_::_,_,_,[],a=>a.elim
 |c::cs,lo,hi,t::ts,⟨_,b,c0,r⟩=>fun i h=>by
  cases i with
  |zero=>simpa[frC,iAt] using⟨b,c0⟩
  |succ i=>
   have:=r.cuts i (by simpa using h)
   cases i with
   |zero=>simpa[frC,iAt] using this
   |succ i=>simpa[frC,iAt] using this
theorem Seg.at:∀ {cs:List Int} {lo hi:Int} {ts:List Tr},Seg d f lo hi cs ts->∀i,i<ts.length->Rt d f (frC cs lo i) (toC cs hi i) (ts.getD i noTr):=fun a i hi0=>by
 have h1:=a.drop hi0
 have h2:=h1.take (n:=0) (by rw[List.length_drop];omega)
 rename_i cs lo hi ts
 have e1:(ts.drop i).take (0+1)=[ts.getD i noTr]:=by
  rw[List.drop_eq_getElem_cons hi0,List.take_succ_cons,List.take_zero];simp[List.getD,hi0]
 have e2:toC (cs.drop i) hi 0=toC cs hi i:=by
  unfold toC
  by_cases hc:i<cs.length
  ·rw[if_pos (by simp;omega),if_pos hc];simp[iAt,List.getD]
  ·rw[if_neg (by simp;omega),if_neg hc]
 rw[e1,e2,List.take_zero] at h2
 exact h2
theorem Seg.of:∀ {cs:List Int} {lo hi:Int} {ts:List Tr},cs.length+1=ts.length->CsIn lo hi cs->(∀i,i<ts.length->Rt d f (frC cs lo i) (toC cs hi i) (ts.getD i noTr))->Seg d f lo hi cs ts
 |[],lo,hi,[t],_,_,a=>by
  show Rt d f lo hi t
  simpa[frC,toC] using a 0 (by simp)
 |[],_,_,[],hl,_,_=>by simp at hl
 |[],_,_,_::_::_,hl,_,_=>by simp at hl
 |_::_,_,_,[],hl,_,_=>by simp at hl
 |c::cs,lo,hi,t::ts,hl,hc,a=>by
  have a0:=a 0 (by simp)
  have c0:=hc 0 (by simp)
  simp only[frC,toC,if_true,List.length_cons,Nat.zero_lt_succ,iAt,List.getD_cons_zero] at a0 c0
  refine⟨a0,c0.1,c0.2,Seg.of (by simpa using hl) (fun i hi0=> ?_) (fun i hi0=> ?_)⟩
  ·have:=hc (i+1) (by simpa using hi0)
   cases i with
   |zero=>simpa[frC,iAt] using this
   |succ i=>simpa[frC,iAt] using this
  ·have:=a (i+1) (by simpa using hi0)
   simp only[frC,toC,iAt,Nat.add_one_ne_zero,if_false,Nat.add_sub_cancel,List.getD_cons_succ,List.length_cons,Nat.add_lt_add_iff_right] at this ⊢
   cases i with
   |zero=>simpa using this
   |succ i=>simpa using this

theorem CsIn.tail {c lo hi:Int} {cs:List Int} (a:CsIn lo hi (c::cs)):lo<c/\c<hi/\CsIn c hi cs:=by
 have c0:=a 0 (by simp)
 simp only[frC,if_true,iAt,List.getD_cons_zero] at c0
 refine⟨c0.1,c0.2,fun i hi0=> ?_⟩
 have:=a (i+1) (by simpa using hi0)
 cases i with
 |zero=>simpa[frC,iAt] using this
 |succ i=>simpa[frC,iAt] using this
theorem CsIn.lo {lo hi:Int} {cs:List Int} (a:CsIn lo hi cs):∀i,i<cs.length->lo<iAt cs i:=by
 induction cs generalizing lo with
 |nil=>intro i h;simp at h
 |cons c cs ih=>
  obtain⟨h1,h2,h3⟩:=a.tail
  intro i hi0
  cases i with
  |zero=>simpa[iAt] using h1
  |succ i=>
   have:=ih h3 i (by simpa using hi0)
   simp only[iAt,List.getD_cons_succ] at this ⊢
   omega
theorem CsIn.asc {lo hi:Int} {cs:List Int} (a:CsIn lo hi cs):∀i j,i<j->j<cs.length->iAt cs i<iAt cs j:=by
 induction cs generalizing lo with
 |nil=>intro i j _ h;simp at h
 |cons c cs ih=>
  obtain⟨h1,h2,h3⟩:=a.tail
  intro i j hij hj
  cases j with
  |zero=>omega
  |succ j=>
   cases i with
   |zero=>
    have:=h3.lo j (by simpa using hj)
    simpa[iAt] using this
   |succ i=>
    have:=ih h3 i j (by omega) (by simpa using hj)
    simpa[iAt] using this
theorem CsIn.pref {lo hi:Int} {cs:List Int} (a:CsIn lo hi cs) {i:Nat} (hi0:i<=cs.length) {k:Int} (h1:frC cs lo i<=k) (h2:k<toC cs hi i):prefK cs k=i:=by
 refine prefK_at hi0 (fun j hj=> ?_) (fun hlt=> ?_)
 ·unfold frC at h1
  rw[if_neg (by omega)] at h1
  by_cases e:j=i-1
  ·rw[e];exact h1
  ·have:=a.asc j (i-1) (by omega) (by omega)
   omega
 ·unfold toC at h2
  rw[if_pos hlt] at h2
  omega
theorem CsIn.cnt {lo hi:Int} {cs:List Int} (a:CsIn lo hi cs) (k:Int):cntK cs k cs.length=prefK cs k:=cntK_pref a.asc
theorem CsIn.mineK {lo hi:Int} {cs:List Int} (a:CsIn lo hi cs) (i:Nat) (b:ML):mineK cs i b=mineF cs i b:=by
 unfold YtcmofojechfccaaGreat.mineK mineF
 congr 1
 funext m
 rw[a.cnt]

theorem Seg.put:∀ {cs:List Int} {lo hi:Int} {ts:List Tr} {i:Nat} {x:TM},Seg d f lo hi cs ts->i<ts.length->Seg d h (frC cs lo i) (toC cs hi i) x.2 x.1->(∀k,lo<=k->k<hi->prefK cs k≠i->f k=h k)→
  Seg d h lo hi (cs.take i++x.2++cs.drop i) (ts.take i++x.1++ts.drop (i+1))
 |[],_,_,[],_,_,a,_,_,_=>a.elim
 |[],_,_,_::_::_,_,_,a,_,_,_=>a.elim
 |_::_,_,_,[],_,_,a,_,_,_=>a.elim
 |[],lo,hi,[t],i,x,_,hi0,b,_=>by
  have e:i=0:=by simp at hi0;omega
  subst e
  simpa[frC,toC] using b
 |c::cs,lo,hi,t::ts,0,x,⟨a,a1,a2,r⟩,_,b,e=>by
  have b' :Seg d h lo c x.2 x.1:=by simpa[frC,toC,iAt] using b
  have r' :Seg d h c hi cs ts:=r.congr fun k h1 h2=>e k (by omega) h2 (by rw[prefK_cons_pos h1];omega)
  simpa using b'.append a1 a2 r'
 |c::cs,lo,hi,t::ts,i+1,x,⟨a,a1,a2,r⟩,hi0,b,e=>by
  have b' :Seg d h (frC cs c i) (toC cs hi i) x.2 x.1:=by
   have e1:frC (c::cs) lo (i+1)=frC cs c i:=by
    cases i with
    |zero=>simp[frC,iAt]
    |succ i=>simp[frC,iAt]
   have e2:toC (c::cs) hi (i+1)=toC cs hi i:=by simp[toC,iAt]
   rw[e1,e2] at b
   exact b
  have r' :=r.put (i:=i) (by simpa using hi0) b' (fun k h1 h2 h3=>e k (by omega) h2 (by rw[prefK_cons_pos h1];omega))
  rw[List.take_succ_cons,List.take_succ_cons,List.drop_succ_cons,List.drop_succ_cons]
  exact⟨a.congr fun k h1 h2=>e k h1 (by omega) (by rw[prefK_cons_neg (by omega)];omega),a1,a2,r'⟩

theorem Seg.both {m:TM} {lo hi:Int} (F:Nat->TM) (hl:m.2.length+1=m.1.length) (hc:CsIn lo hi m.2) (a:∀i,i<m.1.length->Seg d h (frC m.2 lo i) (toC m.2 hi i) (F i).2 (F i).1):Seg d h lo hi (bothM F m).2 (bothM F m).1:=by
 have key:∀j,j<m.1.length->Seg d h lo (toC m.2 hi j) (sideC F m.2 (j+1)) (sideT F (j+1)):=by
  intro j
  induction j with
  |zero=>
   intro hj
   have:=a 0 hj
   simpa[sideC,sideT,frC] using this
  |succ j ih=>
   intro hj
   have h1:=ih (by omega)
   have h2:=a (j+1) hj
   have e1:toC m.2 hi j=iAt m.2 j:=by rw[toC,if_pos (by omega)]
   have e2:frC m.2 lo (j+1)=iAt m.2 j:=by rw[frC,if_neg (by omega),Nat.add_sub_cancel]
   rw[e1] at h1
   rw[e2] at h2
   have h3:iAt m.2 j<toC m.2 hi (j+1):=by
    unfold toC
    split
    ·have:=(hc (j+1) (by assumption)).1
     rw[e2] at this
     exact this
    ·exact(hc j (by omega)).2
   have:=h1.append (hc.lo j (by omega)) h3 h2
   have e3:sideC F m.2 (j+1+1)=sideC F m.2 (j+1)++iAt m.2 j::(F (j+1)).2:=by
    rw[sideC,if_pos (by omega),Nat.add_sub_cancel,List.append_assoc];rfl
   rw[e3,sideT]
   exact this
 have:=key (m.1.length-1) (by omega)
 rw[show m.1.length-1+1=m.1.length by omega,toC,if_neg (by omega)] at this
 exact this
end
end Go.Proofs.YtcmofojechfccaaGreat
