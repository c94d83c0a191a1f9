/-
  Trees side by side: each is right in its place, and tells of each key of its place what it should; plain mathematics.
  Leaves, parents and what is given down, as trees side by side; plain mathematics.
  Appending a list to a row of one's own, at a step of a region that draws its order.
  Rows and trees with the blocks that they lie in: what stays when other blocks are written.
  The contract of the model's l3Pending.
-/
import Derived.Test.YtadmomgdacfgpaaGreatOfInjd9
import Derived.Test.YtadmomgdacfgpaaGreatOfInjd1
import Derived.Test.YtadmomgdacfgpaaGreatOfInjd3
import Derived.Deep.RegionHeld3
import Derived.Deep.AppendLies
import Derived.Test.YtadmomgdacfgpaaGreatOfInjd5
import Derived.Test.YtadmomgdacfgpaaGreatOfInjd7
namespace Go.Proofs.YtadmomgdacfgpaaGreat
set_option maxRecDepth 100000
set_option maxHeartbeats 8000000
section
def Rt (d:Nat) (f:Int->Int × Bool) (lo hi:Int) (t:Tr):Prop:=AE d t lo hi=d/\∀k,lo<=k->k<hi->FW d t k=f k
def Seg (d:Nat) (f:Int->Int × Bool):Int->Int->List Int->List Tr->Prop
 |lo,hi,[],[t]=>Rt d f lo hi t
 |lo,hi,c::cs,t::ts=>Rt d f lo c t/\lo<c/\c<hi/\Seg d f c hi cs ts
 |_,_,_,_=>False
def EU (lo hi:Int) (ms:ML):Prop:=∀m∈ms,okN m/\lo<=m.2.1/\m.2.1<hi
def GG (lo hi:Int) (cs:List Int):Prop:=∀i,i<cs.length->frC cs lo i<iAt cs i/\iAt cs i<hi

variable {d:Nat} {f g h:Int->Int × Bool}

theorem Rt.congr {lo hi:Int} {t:Tr} (a:Rt d f lo hi t) (e:∀k,lo<=k->k<hi->f k=g k):Rt d g lo hi t:=⟨a.1,fun k h1 h2=>(a.2 k h1 h2).trans (e k h1 h2)⟩
theorem Seg.len:∀ {cs:List Int} {lo hi:Int} {ts:List Tr},Seg d f lo hi cs ts->cs.length+1=ts.length
 |[],_,_,[_],_=>rfl
 |[],_,_,[],a=>a.elim
 |[],_,_,_::_::_,a=>a.elim
 |_::_,_,_,[],a=>a.elim
 |_::cs,_,_,_::ts,⟨_,_,_,a⟩=>by have:=a.len;simp only[List.length_cons];omega
theorem Seg.congr:∀ {cs:List Int} {lo hi:Int} {ts:List Tr},Seg d f lo hi cs ts->(∀k,lo<=k->k<hi->f k=g k)->Seg d g lo hi cs ts
 |[],_,_,[_],a,e=>Rt.congr a e
 |[],_,_,[],a,_=>a.elim
 |[],_,_,_::_::_,a,_=>a.elim
 |_::_,_,_,[],a,_=>a.elim
 |_::_,_,_,_::_,⟨a,b,c,r⟩,e=>⟨a.congr fun k h1 h2=>e k h1 (by omega),b,c,r.congr fun k h1 h2=>e k (by omega) h2⟩
theorem Seg.append:∀ {cs1:List Int} {lo c hi:Int} {ts1:List Tr} {cs2:List Int} {ts2:List Tr},Seg d f lo c cs1 ts1->lo<c->c<hi->Seg d f c hi cs2 ts2->Seg d f lo hi (cs1++c::cs2) (ts1++ts2)
 |[],_,_,_,[_],_,_,a,h1,h2,r=>⟨a,h1,h2,r⟩
 |[],_,_,_,[],_,_,a,_,_,_=>a.elim
 |[],_,_,_,_::_::_,_,_,a,_,_,_=>a.elim
 |_::_,_,_,_,[],_,_,a,_,_,_=>a.elim
 |_::_,_,_,_,_::_,_,_,⟨a,b,c0,r0⟩,_,h2,r=>⟨a,b,by omega,r0.append c0 h2 r⟩
theorem Seg.drop:∀ {i:Nat} {cs:List Int} {lo hi:Int} {ts:List Tr},Seg d f lo hi cs ts->i<ts.length->Seg d f (frC cs lo i) hi (cs.drop i) (ts.drop i)
 |0,_,_,_,_,a,_=>a
 |i+1,[],_,_,ts,a,hi0=>by have:=a.len;simp at this;omega
 |_+1,_::_,_,_,[],a,_=>a.elim
 |i+1,c::cs,lo,hi,t::ts,⟨_,_,_,r⟩,hi0=>by
  have:=r.drop (i:=i) (by simpa using hi0)
  rw[List.drop_succ_cons,List.drop_succ_cons]
  cases i with
  |zero=>simpa[frC,iAt] using this
  |succ i=>simpa[frC,iAt] using this
theorem Seg.take:∀ {n:Nat} {cs:List Int} {lo hi:Int} {ts:List Tr},Seg d f lo hi cs ts->n<ts.length->Seg d f lo (toC cs hi n) (cs.take n) (ts.take (n+1))
 |0,[],_,_,[_],a,_=>a
 |_,[],_,_,[],a,_=>a.elim
 |_,[],_,_,_::_::_,a,_=>a.elim
 |_+1,[],_,_,[_],_,hn=>by simp at hn
 |_,_::_,_,_,[],a,_=>a.elim
 |0,_::_,_,_,_::_,⟨a,_,_,_⟩,_=>by simpa[toC,iAt,Seg] using a
 |n+1,c::cs,lo,hi,t::ts,⟨a,b,c0,r⟩,hn=>by
  have h1:=r.take (n:=n) (by simpa using hn)
  have e:toC (c::cs) hi (n+1)=toC cs hi n:=by simp[toC,iAt]
  rw[List.take_succ_cons,List.take_succ_cons,e]
  refine⟨a,b, ?_,h1⟩
  unfold toC;split
  ·rename_i hlt
   clear h1 e hn a b;induction cs generalizing c ts n with
   |nil=>simp at hlt
   |cons c1 cs ih=>
    cases ts with
    |nil=>exact r.elim
    |cons t1 ts=>
     obtain⟨_,r1,r2,r3⟩:=r
     cases n with
     |zero=>simpa[iAt] using r1
     |succ n=>
      have:=ih (c:=c1) (ts:=ts) r2 r3 (n:=n) (by simpa using hlt)
      simp only[iAt,List.getD_cons_succ] at this ⊢
      omega
  ·exact c0
theorem Seg.cuts:∀ {cs:List Int} {lo hi:Int} {ts:List Tr},Seg d f lo hi cs ts->GG lo hi cs
 |[],_,_,_,_=>fun i h=>by simp at h
 |_::_,_,_,[],a=>a.elim
 |c::cs,lo,hi,t::ts,⟨_,b,c0,r⟩=>fun i h=>by
  cases i with
  |zero=>simpa[frC,iAt] using⟨b,c0⟩
  |succ i=>
   have:=r.cuts i (by simpa using h)
   cases i with
   |zero=>simpa[frC,iAt] using this
   |succ i=>simpa[frC,iAt] using this
theorem Seg.at:∀ {cs:List Int} {lo hi:Int} {ts:List Tr},Seg d f lo hi cs ts->∀i,i<ts.length->Rt d f (frC cs lo i) (toC cs hi i) (ts.getD i Am):=fun a i hi0=>by
 have h1:=a.drop hi0
 have h2:=h1.take (n:=0) (by rw[List.length_drop];omega)
 rename_i cs lo hi ts
 have e1:(ts.drop i).take (0+1)=[ts.getD i Am]:=by
  rw[List.drop_eq_getElem_cons hi0,List.take_succ_cons,List.take_zero];simp[List.getD,hi0]
 have e2:toC (cs.drop i) hi 0=toC cs hi i:=by
  unfold toC;by_cases hc:i<cs.length
  ·rw[if_pos (by simp;omega),if_pos hc];simp[iAt,List.getD]
  ·rw[if_neg (by simp;omega),if_neg hc]
 rw[e1,e2,List.take_zero] at h2
 exact h2
theorem Seg.of:∀ {cs:List Int} {lo hi:Int} {ts:List Tr},cs.length+1=ts.length->GG lo hi cs->(∀i,i<ts.length->Rt d f (frC cs lo i) (toC cs hi i) (ts.getD i Am))->Seg d f lo hi cs ts
 |[],lo,hi,[t],_,_,a=>by
  show Rt d f lo hi t
  simpa[frC,toC] using a 0 (by simp)
 |[],_,_,[],hl,_,_=>by simp at hl
 |[],_,_,_::_::_,hl,_,_=>by simp at hl
 |_::_,_,_,[],hl,_,_=>by simp at hl
 |c::cs,lo,hi,t::ts,hl,hc,a=>by
  have a0:=a 0 (by simp)
  have c0:=hc 0 (by simp)
  simp only[frC,toC,if_true,List.length_cons,Nat.zero_lt_succ,iAt,List.getD_cons_zero] at a0 c0
  refine⟨a0,c0.1,c0.2,Seg.of (by simpa using hl) (fun i hi0=> ?_) (fun i hi0=> ?_)⟩
  ·have:=hc (i+1) (by simpa using hi0)
   cases i with
   |zero=>simpa[frC,iAt] using this
   |succ i=>simpa[frC,iAt] using this
  ·have:=a (i+1) (by simpa using hi0)
   simp only[frC,toC,iAt,Nat.add_one_ne_zero,if_false,Nat.add_sub_cancel,List.getD_cons_succ,List.length_cons,Nat.add_lt_add_iff_right] at this ⊢
   cases i with
   |zero=>simpa using this
   |succ i=>simpa using this

theorem GG.tail {c lo hi:Int} {cs:List Int} (a:GG lo hi (c::cs)):lo<c/\c<hi/\GG c hi cs:=by
 have c0:=a 0 (by simp)
 simp only[frC,if_true,iAt,List.getD_cons_zero] at c0
 refine⟨c0.1,c0.2,fun i hi0=> ?_⟩
 have:=a (i+1) (by simpa using hi0)
 cases i with
 |zero=>simpa[frC,iAt] using this
 |succ i=>simpa[frC,iAt] using this
theorem GG.lo {lo hi:Int} {cs:List Int} (a:GG lo hi cs):∀i,i<cs.length->lo<iAt cs i:=by
 induction cs generalizing lo with
 |nil=>intro i h;simp at h
 |cons c cs ih=>
  obtain⟨h1,h2,h3⟩:=a.tail
  intro i hi0
  cases i with
  |zero=>simpa[iAt] using h1
  |succ i=>
   have:=ih h3 i (by simpa using hi0)
   simp only[iAt,List.getD_cons_succ] at this ⊢
   omega
theorem GG.asc {lo hi:Int} {cs:List Int} (a:GG lo hi cs):∀i j,i<j->j<cs.length->iAt cs i<iAt cs j:=by
 induction cs generalizing lo with
 |nil=>intro i j _ h;simp at h
 |cons c cs ih=>
  obtain⟨h1,h2,h3⟩:=a.tail
  intro i j hij hj
  cases j with
  |zero=>omega
  |succ j=>
   cases i with
   |zero=>
    have:=h3.lo j (by simpa using hj)
    simpa[iAt] using this
   |succ i=>
    have:=ih h3 i j (by omega) (by simpa using hj)
    simpa[iAt] using this
theorem GG.pref {lo hi:Int} {cs:List Int} (a:GG lo hi cs) {i:Nat} (hi0:i<=cs.length) {k:Int} (h1:frC cs lo i<=k) (h2:k<toC cs hi i):AH cs k=i:=by
 refine Qa hi0 (fun j hj=> ?_) (fun hlt=> ?_)
 ·unfold frC at h1;rw[if_neg (by omega)] at h1
  by_cases e:j=i-1
  ·rw[e];exact h1
  ·have:=a.asc j (i-1) (by omega) (by omega)
   omega
 ·unfold toC at h2;rw[if_pos hlt] at h2
  omega
theorem GG.cnt {lo hi:Int} {cs:List Int} (a:GG lo hi cs) (k:Int):EA cs k cs.length=AH cs k:=Mx a.asc
theorem GG.mineK {lo hi:Int} {cs:List Int} (a:GG lo hi cs) (i:Nat) (b:ML):mineK cs i b=Ak cs i b:=by
 unfold YtadmomgdacfgpaaGreat.mineK Ak
 congr 1
 funext m
 rw[a.cnt]

theorem Seg.put:∀ {cs:List Int} {lo hi:Int} {ts:List Tr} {i:Nat} {x:TM},Seg d f lo hi cs ts->i<ts.length->Seg d h (frC cs lo i) (toC cs hi i) x.2 x.1->(∀k,lo<=k->k<hi->AH cs k≠i->f k=h k)→
  Seg d h lo hi (cs.take i++x.2++cs.drop i) (ts.take i++x.1++ts.drop (i+1))
 |[],_,_,[],_,_,a,_,_,_=>a.elim
 |[],_,_,_::_::_,_,_,a,_,_,_=>a.elim
 |_::_,_,_,[],_,_,a,_,_,_=>a.elim
 |[],lo,hi,[t],i,x,_,hi0,b,_=>by
  have e:i=0:=by simp at hi0;omega
  subst e;simpa[frC,toC] using b
 |c::cs,lo,hi,t::ts,0,x,⟨a,a1,a2,r⟩,_,b,e=>by
  have b' :Seg d h lo c x.2 x.1:=by simpa[frC,toC,iAt] using b
  have r' :Seg d h c hi cs ts:=r.congr fun k h1 h2=>e k (by omega) h2 (by rw[EB h1];omega)
  simpa using b'.append a1 a2 r'
 |c::cs,lo,hi,t::ts,i+1,x,⟨a,a1,a2,r⟩,hi0,b,e=>by
  have b' :Seg d h (frC cs c i) (toC cs hi i) x.2 x.1:=by
   have e1:frC (c::cs) lo (i+1)=frC cs c i:=by
    cases i with
    |zero=>simp[frC,iAt]
    |succ i=>simp[frC,iAt]
   have e2:toC (c::cs) hi (i+1)=toC cs hi i:=by simp[toC,iAt]
   rw[e1,e2] at b
   exact b
  have r' :=r.put (i:=i) (by simpa using hi0) b' (fun k h1 h2 h3=>e k (by omega) h2 (by rw[EB h1];omega))
  rw[List.take_succ_cons,List.take_succ_cons,List.drop_succ_cons,List.drop_succ_cons]
  exact⟨a.congr fun k h1 h2=>e k h1 (by omega) (by rw[FM (by omega)];omega),a1,a2,r'⟩

theorem Seg.both {m:TM} {lo hi:Int} (F:Nat->TM) (hl:m.2.length+1=m.1.length) (hc:GG lo hi m.2) (a:∀i,i<m.1.length->Seg d h (frC m.2 lo i) (toC m.2 hi i) (F i).2 (F i).1):Seg d h lo hi (Gm F m).2 (Gm F m).1:=by
 have key:∀j,j<m.1.length->Seg d h lo (toC m.2 hi j) (Cp F m.2 (j+1)) (AN F (j+1)):=by
  intro j;induction j with
  |zero=>
   intro hj;have:=a 0 hj
   simpa[Cp,AN,frC] using this
  |succ j ih=>
   intro hj;have h1:=ih (by omega)
   have h2:=a (j+1) hj
   have e1:toC m.2 hi j=iAt m.2 j:=by rw[toC,if_pos (by omega)]
   have e2:frC m.2 lo (j+1)=iAt m.2 j:=by rw[frC,if_neg (by omega),Nat.add_sub_cancel]
   rw[e1] at h1
   rw[e2] at h2
   have h3:iAt m.2 j<toC m.2 hi (j+1):=by
    unfold toC;split
    ·have:=(hc (j+1) (by assumption)).1
     rw[e2] at this
     exact this
    ·exact(hc j (by omega)).2
   have:=h1.append (hc.lo j (by omega)) h3 h2
   have e3:Cp F m.2 (j+1+1)=Cp F m.2 (j+1)++iAt m.2 j::(F (j+1)).2:=by
    rw[Cp,if_pos (by omega),Nat.add_sub_cancel,List.append_assoc];rfl
   rw[e3,AN]
   exact this
 have:=key (m.1.length-1) (by omega)
 rw[show m.1.length-1+1=m.1.length by omega,toC,if_neg (by omega)] at this
 exact this
end
section
variable {d:Nat} {f g h:Int->Int × Bool}

theorem Ue {l:PL} (a:Cy l):Bd l=true:=(Ef _).2 a
theorem Rt.leaf {ps:PL} {lo hi:Int} (a:Cy ps) (b:FK lo hi ps) (hl:ps.length<=4):Rt 1 (Aw ps) lo hi (Dh ps):=by
 refine⟨?_,fun k _ _=>Fs rfl⟩
 rw[Cu rfl,if_pos]
 simp only[Bl,Bool.and_eq_true,decide_eq_true_eq]
 refine⟨Ue a,hl,rfl,Dr fun i hi0=> ?_⟩
 have:=b ps[i] (List.getElem_mem hi0)
 refine Ec.2 ?_
 have e:kOf (Dh ps).pairs i=(ps[i]'hi0).1:=by
  show kOf ps i=_
  rw[kOf,List.getD,List.getElem?_eq_getElem (show i<ps.length from hi0)];rfl
 rw[e]
 omega
theorem Rt.fork {lo hi:Int} {cs:List Int} {ts:List Tr} {b:ML} (a:Seg d f lo hi cs ts) (hd:0<d) (h2:2<=ts.length) (h4:ts.length<=4) (hb:b.length<=6) (hm:EU lo hi b) :
  Rt (d+1) (fun k=>Eh (f k) (ofK b k)) lo hi ⟨false,[],cs,ts,b⟩:=by
 have hl:=a.len
 have hc:=a.cuts
 have hf:Bn ⟨false,[],cs,ts,b⟩ lo hi=true:=by
  simp only[Bn,DZ,Bool.and_eq_true,decide_eq_true_eq]
  refine⟨⟨rfl,⟨h2,h4⟩,hl,hb⟩,Dr fun i hi0=> ?_,Dr fun i hi0=> ?_⟩
  ·obtain⟨⟨m1,m2⟩,m3,m4⟩:=hm b[i] (List.getElem_mem hi0)
   rw[D7 b i hi0] at m1 m2 m3 m4
   simp only[Ev,Bool.and_eq_true]
   refine⟨m1,by simpa using m2,Ec.2 ⟨m3, ?_⟩⟩
   have:mK b i<hi:=m4
   show mK b i<=hi-1
   omega
  ·have:=hc i hi0
   refine Ec.2 ?_
   unfold frC at this;show Da ⟨false,[],cs,ts,b⟩ lo i+1<=iAt cs i/\iAt cs i<=hi-1
   unfold Da;show(if i=0 then lo else iAt cs (i-1))+1<=_/\_
   omega
 have hk:∀i,i<ts.length->Cm d ⟨false,[],cs,ts,b⟩ lo hi i=d:=fun i hi0=>(a.at i hi0).1
 refine⟨?_,fun k h1 h3=> ?_⟩
 ·rw[Cv rfl hf,EZ]
  ·rw[hk 0 (by omega)]
  ·rw[hk 0 (by omega)];omega
  ·intro i hi0;rw[hk i hi0,hk 0 (by omega)]
 ·rw[Fr rfl]
  have hp:=Gr cs k
  have hr:=Hj hp hc ⟨h1,h3⟩ rfl
  have:=(a.at (AH cs k) (by omega)).2 k hr.1 hr.2
  show Eh (FW d (ts.getD (AH cs k) Am) k) (ofK b k)=_
  rw[this]
theorem Rt.fork0 {lo hi:Int} {cs:List Int} {ts:List Tr} (a:Seg d f lo hi cs ts) (hd:0<d) (h2:2<=ts.length) (h4:ts.length<=4):Rt (d+1) f lo hi ⟨false,[],cs,ts,[]⟩:=
 Rt.fork a hd h2 h4 (by simp) (fun m hm=>by simp at hm)
theorem P7 {e:Nat->Nat} {n r:Nat} (hr:DY e n=r+1):∀i,i<n->e i=r:=by
 intro i hi0;unfold DY at hr;split at hr
 ·rename_i hq
  simp only[Bool.and_eq_true] at hq
  have:=GP hq.2 hi0
  simp only[beq_iff_eq] at this
  omega
 ·omega
theorem Rt.kids {lo hi:Int} {T:Tr} (a:AE (d+1) T lo hi=d+1) (hl:T.leaf=false):Bn T lo hi=true/\Seg d (fun k=>FW d (Qp T k) k) lo hi T.cuts T.kids:=by
 have hf:=(BJ (m:=d) (T:=T) (lo:=lo) (hi:=hi) (by omega) hl).1
 refine⟨hf, ?_⟩
 obtain⟨q1,q2,q3,q4,q5,q6⟩:=Br hf
 have hc:GG lo hi T.cuts:=Ht q6
 rw[Cv hl hf] at a
 have hk:=P7 a
 refine Seg.of q3 hc fun i hi0=>⟨hk i hi0,fun k h1 h2=> ?_⟩
 have:=hc.pref (i:=i) (by omega) h1 h2
 show _=FW d (Ba T (AH T.cuts k)) k
 rw[this];rfl

theorem Nk {l:PL} (a:Asc l) {i j:Nat} (hij:i<j) (hj:j<l.length):kOf l i<kOf l j:=by
 have h1:=List.pairwise_iff_getElem.1 a i j (by simpa[Be] using(by omega:i<l.length)) (by simpa[Be] using hj) hij
 have h2:i<l.length:=by omega
 simpa[Be,kOf,List.getD,hj,h2] using h1
theorem O8 {l:PL} (a:Cy l) (i n:Nat):Cy ((l.drop i).take n):=
 ⟨List.Pairwise.sublist (List.Sublist.map Prod.fst ((List.take_sublist _ _).trans (List.drop_sublist _ _))) a.1,fun p hp=>a.2 p (List.mem_of_mem_drop (List.mem_of_mem_take hp))⟩
theorem Pu {l:PL} {i n:Nat} {k:Int} (h1:∀j,j<i->j<l.length->kOf l j<k) (h2:∀j,i+n<=j->j<l.length->k<kOf l j):Aw ((l.drop i).take n) k=Aw l k:=by
 have e:l=l.take i++((l.drop i).take n++(l.drop i).drop n):=by rw[List.take_append_drop,List.take_append_drop]
 conv=>rhs;rw[e]
 rw[F9 (fun p hp=> ?_),EV (fun p hp=> ?_)]
 ·rw[List.drop_drop] at hp
  obtain⟨j,hj,hk⟩:=List.getElem_of_mem hp
  rw[List.getElem_drop] at hk
  rw[List.length_drop] at hj
  have:=h2 (i+n+j) (by omega) (by omega)
  have e2:kOf l (i+n+j)=p.1:=by rw[←hk];simp[kOf,List.getD,show i+n+j<l.length by omega]
  omega
 ·obtain⟨j,hj,hk⟩:=List.getElem_of_mem hp
  rw[List.getElem_take] at hk
  rw[List.length_take] at hj
  have:=h1 j (by omega) (by omega)
  have e2:kOf l j=p.1:=by rw[←hk];simp[kOf,List.getD,show j<l.length by omega]
  omega
theorem Ph {l:PL} {i n:Nat} {p:Int × Int} (hp:p∈(l.drop i).take n):∃j,i<=j/\j<i+n/\j<l.length/\p.1=kOf l j:=by
 obtain⟨j,hj,hk⟩:=List.getElem_of_mem hp
 rw[List.getElem_take,List.getElem_drop] at hk
 rw[List.length_take,List.length_drop] at hj
 exact⟨i+j,by omega,by omega,by omega,by rw[←hk];simp[kOf,List.getD,show i+j<l.length by omega]⟩
theorem Up {l:PL} (a:Asc l) {i j:Nat} (hij:i<=j) (hj:j<l.length):kOf l i<=kOf l j:=by
 rcases Nat.lt_or_ge i j with h|h
 ·exact Int.le_of_lt (Nk a h hj)
 ·have:i=j:=by omega
  subst this;exact Int.le_refl _

def loF (ps:PL) (lo:Int) (i:Nat):Int:=if i=0 then lo else kOf ps i
theorem Seg.leaves {ps:PL} {lo hi:Int} (a:Cy ps) (b:FK lo hi ps):∀n i,ps.length-i<=n->i<ps.length->2<=ps.length-i->Seg 1 (Aw ps) (loF ps lo i) hi (lfC ps (i+AG (ps.length-i))) (lfT ps i):=by
 intro n;induction n with
 |zero=>intro i h1 h2;omega
 |succ n ih=>
  intro i h1 h2 h3;have hm:=Bh (ps.length-i)
  rw[Io,if_pos h2]
  have h3' :ps.length-i=3->AG (ps.length-i)=3:=fun h=>by rw[h];rfl
  have hin:∀j,j<ps.length->lo<=kOf ps j/\kOf ps j<hi:=fun j hj=>by
   have:=b ps[j] (List.getElem_mem hj)
   simpa[kOf,List.getD,hj] using this
  have hlo:∀j,i<=j->j<ps.length->loF ps lo i<=kOf ps j:=fun j hij hj=>by
   unfold loF;split
   ·exact(hin j hj).1
   ·exact Up a.1 hij hj
  have hbe:∀k,loF ps lo i<=k->∀j,j<i->j<ps.length->kOf ps j<k:=fun k hk j hji hj=>by
   unfold loF at hk;rw[if_neg (by omega)] at hk
   have:=Nk a.1 hji h2
   omega
  generalize hM:AG (ps.length-i)=M at *
  have hpl:((ps.drop i).take M).length<=4:=by rw[List.length_take];omega
  by_cases he:i+M<ps.length
  ·have h4:2<=ps.length-(i+M):=by omega
   have r:=ih (i+M) (by omega) he h4
   rw[Hh,if_pos he,if_pos (by omega),List.singleton_append]
   have e1:loF ps lo (i+M)=kOf ps (i+M):=by rw[loF,if_neg (by omega)]
   rw[e1] at r
   refine⟨(Rt.leaf (O8 a i M) (fun p hp=> ?_) hpl).congr fun k k1 k2=> ?_, ?_,(hin _ he).2,r⟩
   ·obtain⟨j,j1,j2,j3,j4⟩:=Ph hp
    rw[j4]
    exact⟨hlo j j1 j3,Nk a.1 j2 he⟩
   ·exact Pu (hbe k k1) fun j j1 j2=>by have:=Up a.1 j1 j2;omega
   ·have:=hlo i (Nat.le_refl _) h2
    have:=Nk a.1 (show i<i+M by omega) he
    omega
  ·have e1:lfT ps (i+M)=[]:=by rw[Io,if_neg he]
   have e2:lfC ps (i+M)=[]:=by rw[Hh,if_neg he]
   rw[e1,e2]
   refine(Rt.leaf (O8 a i M) (fun p hp=> ?_) hpl).congr fun k k1 k2=> ?_
   ·obtain⟨j,j1,j2,j3,j4⟩:=Ph hp
    rw[j4]
    exact⟨hlo j j1 j3,(hin j j3).2⟩
   ·exact Pu (hbe k k1) fun j j1 j2=>by omega
theorem Seg.leafM {ps:PL} {lo hi:Int} (a:Cy ps) (b:FK lo hi ps):Seg 1 (Aw ps) lo hi (leafM ps).2 (leafM ps).1:=by
 unfold YtadmomgdacfgpaaGreat.leafM
 split
 ·exact Rt.leaf a b (by assumption)
 ·have:=Seg.leaves a b ps.length 0 (by omega) (by omega) (by omega)
  have e:lfC ps 0=lfC ps (0+AG (ps.length-0)):=by rw[Hh ps 0,if_pos (by omega),if_neg (by omega),List.nil_append]
  show Seg 1 (Aw ps) lo hi (lfC ps 0) (lfT ps 0)
  rw[e]
  exact this

theorem Seg.packs {m:TM} {lo hi:Int} (a:Seg d f lo hi m.2 m.1) (hd:0<d):∀n i,m.1.length-i<=n->i<m.1.length->2<=m.1.length-i->Seg (d+1) f (frC m.2 lo i) hi (pkC m (i+AG (m.1.length-i))) (pkT m i):=by
 intro n;induction n with
 |zero=>intro i h1 h2;omega
 |succ n ih=>
  intro i h1 h2 h3;have hl:=a.len
  have hm:=Bh (m.1.length-i)
  rw[Ju,if_pos h2,Fi]
  have h3' :m.1.length-i=3->AG (m.1.length-i)=3:=fun h=>by rw[h];rfl
  generalize hM:AG (m.1.length-i)=M at *
  have s1:=(a.drop h2).take (n:=M-1) (by rw[List.length_drop];omega)
  have e1:toC (m.2.drop i) hi (M-1)=toC m.2 hi (i+(M-1)):=by
   unfold toC;by_cases hc:i+(M-1)<m.2.length
   ·rw[if_pos (by rw[List.length_drop];omega),if_pos hc];simp[iAt,List.getD]
   ·rw[if_neg (by rw[List.length_drop];omega),if_neg hc]
  rw[e1,show M-1+1=M by omega] at s1
  have s2:=Rt.fork0 s1 hd (by rw[List.length_take,List.length_drop];omega) (by rw[List.length_take];omega)
  by_cases he:i+M<m.1.length
  ·have r:=ih (i+M) (by omega) he (by omega)
   rw[In,if_pos he,if_pos (by omega),List.singleton_append]
   have e2:frC m.2 lo (i+M)=iAt m.2 (i+M-1):=by rw[frC,if_neg (by omega)]
   have e3:toC m.2 hi (i+(M-1))=iAt m.2 (i+M-1):=by rw[toC,if_pos (by omega),show i+(M-1)=i+M-1 by omega]
   rw[e2] at r
   rw[e3] at s2
   refine⟨s2, ?_,(a.cuts _ (by omega)).2,r⟩
   unfold frC;split
   ·exact a.cuts.lo _ (by omega)
   ·exact a.cuts.asc _ _ (by omega) (by omega)
  ·have e4:pkT m (i+M)=[]:=by rw[Ju,if_neg he]
   have e5:pkC m (i+M)=[]:=by rw[In,if_neg he]
   have e6:toC m.2 hi (i+(M-1))=hi:=by rw[toC,if_neg (by omega)]
   rw[e4,e5]
   rw[e6] at s2
   exact s2
theorem Seg.pack {m:TM} {lo hi:Int} (a:Seg d f lo hi m.2 m.1) (hd:0<d) (h2:2<=m.1.length):Seg (d+1) f lo hi (Cs m).2 (Cs m).1:=by
 have:=a.packs hd m.1.length 0 (by omega) (by omega) (by omega)
 have e:pkC m 0=pkC m (0+AG (m.1.length-0)):=by rw[In m 0,if_pos (by omega),if_neg (by omega),List.nil_append]
 show Seg (d+1) f lo hi (pkC m 0) (pkT m 0)
 rw[e]
 exact this

def RQ (d:Nat) (g:Tr->ML->TM):Prop:=∀T ms lo hi,AE d T lo hi=d->EU lo hi ms->Seg d (fun k=>Eh (FW d T k) (ofK ms k)) lo hi (g T ms).2 (g T ms).1
theorem EU.mine {lo hi:Int} {cs:List Int} {b:ML} (a:EU lo hi b) (hc:GG lo hi cs) {i:Nat} (hi0:i<=cs.length):EU (frC cs lo i) (toC cs hi i) (Ak cs i b):=fun m hm=>by
 obtain⟨h1,h2⟩:=List.mem_filter.1 hm
 obtain⟨h3,h4⟩:=a m h1
 exact⟨h3,Hj hi0 hc h4 (by simpa using h2)⟩
theorem EU.rest {lo hi:Int} {cs:List Int} {b:ML} (a:EU lo hi b) (i:Nat):EU lo hi (AW cs i b):=fun m hm=>a m (List.mem_filter.1 hm).1
theorem Kz {cs:List Int} {k:Int} {i:Nat} (b:ML) (e:AH cs k=i):ofK (Ak cs i b) k=ofK b k/\ofK (AW cs i b) k=[]:=by
 constructor
 ·unfold ofK Ak;rw[List.filter_filter]
  refine List.filter_congr fun m _=> ?_
  by_cases hm:m.2.1=k<;>simp[hm,e]
 ·refine List.filter_eq_nil_iff.2 fun m hm=> ?_
  have:=(List.mem_filter.1 hm).2
  intro h1;simp at h1
  rw[h1,e] at this
  simp at this
theorem Vb {cs:List Int} {k:Int} {i:Nat} (b:ML) (e:AH cs k≠i):ofK (AW cs i b) k=ofK b k/\ofK (Ak cs i b) k=[]:=by
 constructor
 ·unfold ofK AW;rw[List.filter_filter]
  refine List.filter_congr fun m _=> ?_
  by_cases hm:m.2.1=k<;>simp[hm,e]
 ·refine List.filter_eq_nil_iff.2 fun m hm=> ?_
  have:=(List.mem_filter.1 hm).2
  intro h1;simp at h1
  rw[h1] at this
  simp[e] at this
theorem Seg.kid {G:Tr->ML->TM} (hg:RQ d G) {m:TM} {lo hi:Int} {b:ML} (a:Seg d f lo hi m.2 m.1) (hb:EU lo hi b) {i:Nat} (hi0:i<m.1.length):Seg d (fun k=>Eh (f k) (ofK b k)) (frC m.2 lo i) (toC m.2 hi i) (G (m.1.getD i Am) (Ak m.2 i b)).2 (G (m.1.getD i Am) (Ak m.2 i b)).1:=by
 have hl:=a.len
 have hr:=a.at i hi0
 refine(hg _ _ _ _ hr.1 (hb.mine a.cuts (by omega))).congr fun k h1 h2=> ?_
 rw[hr.2 k h1 h2,(Kz b (a.cuts.pref (by omega) h1 h2)).1]
theorem Seg.down {G:Tr->ML->TM} (hg:RQ d G) {m:TM} {lo hi:Int} {b:ML} (a:Seg d f lo hi m.2 m.1) (hb:EU lo hi b):Seg d (fun k=>Eh (f k) (ofK b k)) lo hi (Cx G m b).2 (Cx G m b).1:=by
 rw[Ld]
 have hl:=a.len
 refine Seg.both _ hl a.cuts fun i hi0=> ?_
 unfold Cn;split
 ·exact a.kid hg hb hi0
 ·rename_i hz
  have hz' :Ak m.2 i b=[]:=List.length_eq_zero_iff.1 (by omega)
  refine(a.at i hi0).congr fun k h1 h2=> ?_
  rw[←(Kz b (a.cuts.pref (by omega) h1 h2)).1,hz'];rfl
theorem Seg.loop {G:Tr->ML->TM} (hg:RQ d G) {lo hi:Int}:∀n (m:TM) (b:ML) (f:Int->Int × Bool),Seg d f lo hi m.2 m.1->EU lo hi b→
  ∃f',Seg d f' lo hi (Bi G n m b).1.2 (Bi G n m b).1.1/\EU lo hi (Bi G n m b).2/\∀k,lo<=k->k<hi->Eh (f' k) (ofK (Bi G n m b).2 k)=Eh (f k) (ofK b k)
 |0,m,b,f,a,hb=>⟨f,a,hb,fun _ _ _=>rfl⟩
 |n+1,m,b,f,a,hb=>by
  rw[Bi]
  split
  ·have hl:=a.len
   have hat:=(Dc m.2 b m.1.length (by omega)).1
   generalize (Ag m.2 b m.1.length).1=i at *
   let hh:Int->Int × Bool:=fun k=>if AH m.2 k=i then Eh (f k) (ofK b k) else f k
   have p1:Seg d hh (frC m.2 lo i) (toC m.2 hi i) (G (m.1.getD i Am) (Ak m.2 i b)).2 (G (m.1.getD i Am) (Ak m.2 i b)).1:=
    (a.kid hg hb hat).congr fun k h1 h2=>by
     show _=if _ then _ else _
     rw[if_pos (a.cuts.pref (by omega) h1 h2)]
   have p2:Seg d hh lo hi (Bv m i (G (m.1.getD i Am) (Ak m.2 i b))).2 (Bv m i (G (m.1.getD i Am) (Ak m.2 i b))).1:=
    a.put hat p1 fun k _ _ h3=>by
     show _=if _ then _ else _
     rw[if_neg h3]
   obtain⟨f',q1,q2,q3⟩:=Seg.loop hg n _ (AW m.2 i b) hh p2 (hb.rest i)
   refine⟨f',q1,q2,fun k h1 h2=>(q3 k h1 h2).trans ?_⟩
   show Eh (if AH m.2 k=i then Eh (f k) (ofK b k) else f k) _=_
   by_cases e:AH m.2 k=i
   ·rw[if_pos e,(Kz b e).2];rfl
   ·rw[if_neg e,(Vb b e).1]
  ·exact⟨f,a,hb,fun _ _ _=>rfl⟩
theorem EU.shrink {lo hi:Int} {b:ML} (a:∀m∈b,lo<=m.2.1/\m.2.1<hi):EU lo hi (At b):=fun m hm=>by
 obtain⟨x,hx,he⟩:=OI hm
 exact⟨LH b m hm,by rw[←he];exact a x hx⟩
theorem MX:∀d,RQ (d+1) (Ac (d+1)):=by
 intro d;induction d with
 |zero=>
  intro T ms lo hi hT hms
  cases hl:T.leaf
  ·have hk:=(BJ (m:=0) (T:=T) (lo:=lo) (hi:=hi) (by omega) hl)
   have:=hk.2 0 (by have:=(Br hk.1).2.1.1;omega)
   exact absurd rfl this
  ·obtain⟨q1,q2,q3,q4,q5,q6⟩:=DF (Cc (m:=0) (T:=T) (lo:=lo) (hi:=hi) (by omega) hl)
   rw[Ac,if_pos hl]
   refine(Seg.leafM (Jj q1 ms) (I5 q6 fun m hm=>(hms m hm).2)).congr fun k _ _=> ?_
   rw[I8 q1,Fs hl]
 |succ d ih=>
  intro T ms lo hi hT hms
  cases hl:T.leaf
  ·obtain⟨hf,hs⟩:=Rt.kids hT hl
   obtain⟨q1,q2,q3,q4,q5,q6⟩:=Br hf
   have hb:=Gc q5
   rw[Ac,if_neg (by rw[hl];simp)]
   have hB:EU lo hi (At (T.buf++ms)):=EU.shrink fun m hm=>(List.mem_append.1 hm).elim (fun h1=>(hb m h1).2) (fun h1=>(hms m h1).2)
   obtain⟨f',r1,r2,r3⟩:=Seg.loop ih (At (T.buf++ms)).length (T.kids,T.cuts) (At (T.buf++ms)) _ hs hB
   have hsh:=(La (BE (d+1)) (At (T.buf++ms)).length (T.kids,T.cuts) (At (T.buf++ms)) ⟨q3,fun t ht=>by
    obtain⟨i,hi0,rfl⟩:=List.getElem_of_mem ht
    have e:=(hs.at i hi0).1
    have e2:T.kids.getD i Am=T.kids[i]:=by simp[List.getD,hi0]
    rw[e2] at e
    have:=Em (m:=d+1) (T:=T.kids[i]) (lo:=frC T.cuts lo i) (up:=toC T.cuts hi i) (by omega)
    rw[e] at this
    exact this⟩ (Nat.le_refl _))
   have hval:∀k,lo<=k->k<hi->Eh (f' k) (ofK (Bi (Ac (d+1)) (At (T.buf++ms)).length (T.kids,T.cuts) (At (T.buf++ms))).2 k)=Eh (FW (d+1+1) T k) (ofK ms k):=fun k h1 h2=>by
    rw[r3 k h1 h2,Q5,Ko,G6,Fr hl]
   generalize Bi (Ac (d+1)) (At (T.buf++ms)).length (T.kids,T.cuts) (At (T.buf++ms))=r at *
   unfold Hz;split
   ·have hd:=Seg.down ih r1 r2
    exact((hd.pack (by omega) (by have:=(Hi (BE (d+1)) hsh.1 r.2).2.2;omega))).congr hval
   ·exact(Rt.fork r1 (by omega) (by have:=hsh.2.2.1;simp only at this;omega) (by omega) hsh.2.2.2 r2).congr hval
  ·have:=Cu (m:=d+1) (T:=T) (lo:=lo) (hi:=hi) hl
   rw[hT] at this
   split at this<;>omega
end
section
open Go.RowKit

theorem Fq (l:ML):∀y∈Af l,y.oneCell' =true:=by
 induction l with
 |nil=>intro y hy;simp[Af] at hy
 |cons p l ih=>
  intro y hy;rw[Ed] at hy
  rcases List.mem_cons.1 hy with rfl|hy
  ·rfl
  ·rcases List.mem_cons.1 hy with rfl|hy
   ·rfl
   ·rcases List.mem_cons.1 hy with rfl|hy
    ·rfl
    ·exact ih y hy
theorem Jy (a b c:Int):∀u∈[Value.int .i64 a,Value.int .i64 b,Value.int .i64 c],u.oneCell' =true:=by
 intro u hu;simp at hu;rcases hu with rfl|rfl|rfl<;>rfl
end
section
open Go.RowKit

def DW (w:World) (b:Nat):Prop:=∃(c:Array Value) (t:Nat),w.heap[b]? =some (.cells c t (0,0))
theorem DW.lt {w:World} {b:Nat} (h:DW w b):b<w.heap.size:=by
 obtain⟨c,t,h⟩:=h
 exact(Array.getElem?_eq_some_iff.1 h).1
def An (w:World) (F:Nat->Prop) (v:Value) (n:Nat) (xs:List Value):Prop:=
 ∃(a:Option Addr) (b off cap:Nat),v= .slice a n cap/\n<=cap/\cap<=maxLen/\(0<n->a=some ⟨b,off,none⟩/\F b/\DW w b)/\(∀j u,xs[j]? =some u->w.cell? ⟨b,off+j,none⟩=some u)/\(a=none->cap=0)/\(n=0->xs=[])
theorem An.row {w:World} {F:Nat->Prop} {v:Value} {n:Nat} {xs:List Value} (h:An w F v n xs):Row w v n xs:=by
 obtain⟨a,b,off,cap,h1,h2,h3,h4,h5,h6,_⟩:=h
 exact⟨a,b,off,cap,h1,h2,h3,fun hn=>(h4 hn).1,h5,h6⟩
theorem An.mono {w:World} {F G:Nat->Prop} {v:Value} {n:Nat} {xs:List Value} (h:An w F v n xs) (hFG:∀g,F g->G g):An w G v n xs:=by
 obtain⟨a,b,off,cap,h1,h2,h3,h4,h5,h6,h7⟩:=h
 exact⟨a,b,off,cap,h1,h2,h3,fun hn=>⟨(h4 hn).1,hFG _ (h4 hn).2.1,(h4 hn).2.2⟩,h5,h6,h7⟩
theorem An.frame {w w' :World} {F:Nat->Prop} {v:Value} {n:Nat} {xs:List Value} (h:An w F v n xs) (hf:∀g,F g->g<w.heap.size->w'.heap[g]? =w.heap[g]?):An w' F v n xs:=by
 obtain⟨a,b,off,cap,h1,h2,h3,h4,h5,h6,h7⟩:=h
 refine⟨a,b,off,cap,h1,h2,h3,fun hn=>⟨(h4 hn).1,(h4 hn).2.1, ?_⟩,fun j u hj=> ?_,h6,h7⟩
 ·obtain⟨e1,e2,c,t,e3⟩:=h4 hn
  exact⟨c,t,(hf b e2 (Array.getElem?_eq_some_iff.1 e3).1).trans e3⟩
 have hc:=h5 j u hj
 rcases Nat.eq_zero_or_pos n with h0|h0
 ·rw[h7 h0] at hj;simp at hj
 ·rw[World.cell?_of_block (hf b (h4 h0).2.1 (Aa hc))]
  exact hc
theorem An.lt {w:World} {F:Nat->Prop} {v:Value} {n:Nat} {xs:List Value} (h:An w F v n xs) (_hx:0<n->xs≠[]):An w (fun g=>F g/\g<w.heap.size) v n xs:=by
 obtain⟨a,b,off,cap,h1,h2,h3,h4,h5,h6,h7⟩:=h
 exact⟨a,b,off,cap,h1,h2,h3,fun hn=>⟨(h4 hn).1,⟨(h4 hn).2.1,(h4 hn).2.2.lt⟩,(h4 hn).2.2⟩,h5,h6,h7⟩
theorem An.of_owns {w:World} {base e size n:Nat} {v:Value} {xs:List Value} (h:w.ownsRow base e size v n xs):An w (fun g=>v.ownBlock=some g) v n xs:=by
 have h0:=h
 obtain⟨hl,h|⟨g,cap,cur,rfl,hg,hh,hn,hcap,hsz,htake⟩⟩:=h
 ·obtain⟨rfl,rfl⟩:=h
  have hx:xs=[]:=by simpa using hl
  subst hx;exact⟨none,0,0,0,rfl,Nat.le_refl _,Nat.zero_le _,fun h=>absurd h (Nat.lt_irrefl _),fun j u hj=>by simp at hj,fun _=>rfl,fun _=>rfl⟩
 ·refine⟨some ⟨g,0,none⟩,g,0,cap,rfl,hn,hcap,fun _=>⟨rfl,rfl,_,_,hh⟩,fun j u hj=> ?_,(fun h=>by cases h),fun h=> ?_⟩
  ·have hlt:j<n*size:=by
    have:=(List.getElem?_eq_some_iff.1 hj).1
    omega
   rw[Nat.zero_add,h0.cellAt j hlt]
   exact hj
  ·subst h;exact List.length_eq_zero_iff.1 (by omega)
theorem OH {xs:List Value} {i m size:Nat} (j:Nat):((xs.drop (i*size)).take (m*size))[j]? =if j<m*size then xs[i*size+j]? else none:=by
 rw[List.getElem?_take]
 split
 ·rw[List.getElem?_drop]
 ·rfl

theorem PH (l:List (Int × Int)):(l.length=0->Aq l=[])/\(0<l.length->Aq l≠[]):=by
 have:=Cr l
 exact⟨fun h=>List.length_eq_zero_iff.1 (by omega),fun h e=>by rw[e] at this;simp at this;omega⟩
theorem CF (l:List Int):(l.length=0->Ad l=[])/\(0<l.length->Ad l≠[]):=by
 have:=Bo l
 exact⟨fun h=>List.length_eq_zero_iff.1 (by omega),fun h e=>by rw[e] at this;simp at this;omega⟩
theorem Uq (l:ML):(l.length=0->Af l=[])/\(0<l.length->Af l≠[]):=by
 have:=Dj l
 exact⟨fun h=>List.length_eq_zero_iff.1 (by omega),fun h e=>by rw[e] at this;simp at this;omega⟩
theorem G9 (l:List TV):(l.length=0->Ao l=[])/\(0<l.length->Ao l≠[]):=by
 have:=Bf l
 exact⟨fun h=>List.length_eq_zero_iff.1 (by omega),fun h e=>by rw[e] at this;simp at this;omega⟩

def Au:Nat->World->(Nat->Prop)->TV->Tr->Prop
 |0,_,_,_,_=>False
 | n + 1, w, F, x, T => x.lf = T.leaf ∧ An w F x.p T.pairs.length (Aq T.pairs) ∧ An w F x.c T.cuts.length (Ad T.cuts) ∧ An w F x.b T.buf.length (Af T.buf) ∧
   ∃xs:List TV,xs.length=T.kids.length/\An w F x.k xs.length (Ao xs)/\∀i,i<xs.length->Au n w F (Ay xs i) (Ba T i)
def Ah (n:Nat) (w:World) (F:Nat->Prop) (v:Value) (ts:List Tr):Prop:=
 ∃xs:List TV,xs.length=ts.length/\An w F v xs.length (Ao xs)/\∀i,i<xs.length->Au n w F (Ay xs i) (ts.getD i Am)
theorem Au.treeAt:∀ {n:Nat} {w:World} {F:Nat->Prop} {x:TV} {T:Tr},Au n w F x T->AO n w x T
 |0,_,_,_,_,h=>h
 |_+1,_,_,_,_,⟨h1,h2,h3,h4,xs,h5,h6,h7⟩=>⟨h1,h2.row,h3.row,h4.row,xs,h5,h6.row,fun i hi=>(h7 i hi).treeAt⟩
theorem Au.mono:∀ {n:Nat} {w:World} {F G:Nat->Prop} {x:TV} {T:Tr},Au n w F x T->(∀g,F g->G g)->Au n w G x T
 |0,_,_,_,_,_,h,_=>h
 |_+1,_,_,_,_,_,⟨h1,h2,h3,h4,xs,h5,h6,h7⟩,k=>⟨h1,h2.mono k,h3.mono k,h4.mono k,xs,h5,h6.mono k,fun i hi=>(h7 i hi).mono k⟩
theorem Au.frame:∀ {n:Nat} {w w' :World} {F:Nat->Prop} {x:TV} {T:Tr},Au n w F x T->(∀g,F g->g<w.heap.size->w'.heap[g]? =w.heap[g]?)->Au n w' F x T
 |0,_,_,_,_,_,h,_=>h
 |_+1,_,_,_,_,_,⟨h1,h2,h3,h4,xs,h5,h6,h7⟩,k=>⟨h1,h2.frame k,h3.frame k,h4.frame k,xs,h5,h6.frame k,fun i hi=>(h7 i hi).frame k⟩
theorem Au.lt:∀ {n:Nat} {w:World} {F:Nat->Prop} {x:TV} {T:Tr},Au n w F x T->Au n w (fun g=>F g/\g<w.heap.size) x T
 |0,_,_,_,_,h=>h
 |_+1,_,_,_,_,⟨h1,h2,h3,h4,xs,h5,h6,h7⟩=>⟨h1,h2.lt (PH _).2,h3.lt (CF _).2,h4.lt (Uq _).2,xs,h5,h6.lt (G9 _).2,fun i hi=>(h7 i hi).lt⟩
theorem Au.up:∀ {n:Nat} {w:World} {F:Nat->Prop} {x:TV} {T:Tr},Au n w F x T->Au (n+1) w F x T
 |0,_,_,_,_,h=>h.elim
 |_+1,_,_,_,_,⟨h1,h2,h3,h4,xs,h5,h6,h7⟩=>⟨h1,h2,h3,h4,xs,h5,h6,fun i hi=>(h7 i hi).up⟩
theorem Au.le {n m:Nat} {w:World} {F:Nat->Prop} {x:TV} {T:Tr} (h:Au n w F x T) (hm:n<=m):Au m w F x T:=by
 induction hm with
 |refl=>exact h
 |step _ ih=>exact ih.up
theorem Au.chg {n:Nat} {w w' :World} {F P:Nat->Prop} {x:TV} {T:Tr} (h:Au n w F x T) (hc:Chg P w w') (hd:∀g,F g->¬P g):Au n w' F x T:=h.frame fun g hg hl=>hc.block g hl (hd g hg)
theorem Au.below {n:Nat} {w w' :World} {F:Nat->Prop} {x:TV} {T:Tr} (h:Au n w F x T) (hb:Below w.heap.size w w'):Au n w' F x T:=h.frame fun g _ hl=>hb.block g hl
theorem An.below {w w' :World} {F:Nat->Prop} {v:Value} {n:Nat} {xs:List Value} (h:An w F v n xs) (hb:Below w.heap.size w w'):An w' F v n xs:=h.frame fun g _ hl=>hb.block g hl
theorem An.chg {w w' :World} {F P:Nat->Prop} {v:Value} {n:Nat} {xs:List Value} (h:An w F v n xs) (hc:Chg P w w') (hd:∀g,F g->¬P g):An w' F v n xs:=h.frame fun g hg hl=>hc.block g hl (hd g hg)
theorem Ah.below {n:Nat} {w w' :World} {F:Nat->Prop} {v:Value} {ts:List Tr} (h:Ah n w F v ts) (hb:Below w.heap.size w w'):Ah n w' F v ts:=by
 obtain⟨xs,h1,h2,h3⟩:=h
 exact⟨xs,h1,h2.below hb,fun i hi=>(h3 i hi).below hb⟩
theorem Ah.chg {n:Nat} {w w' :World} {F P:Nat->Prop} {v:Value} {ts:List Tr} (h:Ah n w F v ts) (hc:Chg P w w') (hd:∀g,F g->¬P g):Ah n w' F v ts:=by
 obtain⟨xs,h1,h2,h3⟩:=h
 exact⟨xs,h1,h2.chg hc hd,fun i hi=>(h3 i hi).chg hc hd⟩
theorem Ah.mono {n:Nat} {w:World} {F G:Nat->Prop} {v:Value} {ts:List Tr} (h:Ah n w F v ts) (k:∀g,F g->G g):Ah n w G v ts:=by
 obtain⟨xs,h1,h2,h3⟩:=h
 exact⟨xs,h1,h2.mono k,fun i hi=>(h3 i hi).mono k⟩
theorem Au.parts {n:Nat} {w:World} {F:Nat->Prop} {x:TV} {T:Tr} (h:Au (n+1) w F x T) :
  x.lf=T.leaf/\An w F x.p T.pairs.length (Aq T.pairs)/\An w F x.c T.cuts.length (Ad T.cuts)/\An w F x.b T.buf.length (Af T.buf)/\Ah n w F x.k T.kids:=by
 obtain⟨h1,h2,h3,h4,xs,h5,h6,h7⟩:=h
 exact⟨h1,h2,h3,h4,xs,h5,h6,h7⟩
theorem Au.mk {n:Nat} {w:World} {F:Nat->Prop} {x:TV} {T:Tr} (h1:x.lf=T.leaf) (h2:An w F x.p T.pairs.length (Aq T.pairs)) (h3:An w F x.c T.cuts.length (Ad T.cuts)) (h4:An w F x.b T.buf.length (Af T.buf)) (h5:Ah n w F x.k T.kids):Au (n+1) w F x T:=by
 obtain⟨xs,h5,h6,h7⟩:=h5
 exact⟨h1,h2,h3,h4,xs,h5,h6,h7⟩
theorem EX {n:Nat} {w:World} {F:Nat->Prop} {ts:List Tr} {xs:List TV} (h:∀i,i<xs.length->Au n w F (Ay xs i) (ts.getD i Am)):∀y∈Ao xs,y.oneCell' =true:=by
 intro y hy;obtain⟨x,hx,hy2⟩:=List.mem_flatMap.1 hy
 obtain⟨i,hi,rfl⟩:=List.getElem_of_mem hx
 have:=h i hi
 have e:Ay xs i=xs[i]:=by simp[Ay,List.getD,hi]
 rw[e] at this
 obtain⟨a1,a2,a3,a4,c1,c2,c3,c4,hs⟩:=this.treeAt.shape
 rw[hs] at hy2
 simp[TV.cells] at hy2
 rcases hy2 with rfl|rfl|rfl|rfl|rfl<;>rfl

theorem An.nil (w:World) (F:Nat->Prop):An w F (.slice none 0 0) 0 []:=
 ⟨none,0,0,0,rfl,Nat.le_refl _,Nat.zero_le _,fun h=>absurd h (Nat.lt_irrefl _),fun j u hj=>by simp at hj,fun _=>rfl,fun _=>rfl⟩
theorem Ah.nil (n:Nat) (w:World) (F:Nat->Prop):Ah n w F (.slice none 0 0) []:=⟨[],rfl,An.nil w F,fun i hi=>by simp at hi⟩
end
section
open Go.RowKit

theorem Av {u:World} {B:Nat} {x0 x1 x2 x3 x4:Value} (h:Ar u B #[x0,x1,x2,x3,x4]) :
  u.cell? ⟨B,0,none⟩=some x0/\u.cell? ⟨B,1,none⟩=some x1/\u.cell? ⟨B,2,none⟩=some x2/\u.cell? ⟨B,3,none⟩=some x3/\u.cell? ⟨B,4,none⟩=some x4:=by
 have:=h.cells
 exact⟨by rw[this];rfl,by rw[this];rfl,by rw[this];rfl,by rw[this];rfl,by rw[this];rfl⟩
theorem Ar.stepB {u w' :World} {B N:Nat} {A:Array Value} (h:Ar u B A) (hb:Below N u w') (hN:B<N):Ar w' B A:=(hb.block B hN).trans h
theorem Ab {w w' :World} {N b o:Nat} {v:Value} (hb:Below N w w') (hN:b<N) (h:w.cell? ⟨b,o,none⟩=some v):w'.cell? ⟨b,o,none⟩=some v:=(hb.cell (p:=⟨b,o,none⟩) hN).trans h
end
end Go.Proofs.YtadmomgdacfgpaaGreat
