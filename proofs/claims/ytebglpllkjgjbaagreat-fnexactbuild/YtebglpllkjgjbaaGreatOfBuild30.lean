/-
  Trees side by side: each is right in its place, and tells of each key of its place what it should; plain mathematics.
  Leaves, parents and what is given down, as trees side by side; plain mathematics.
  The library's Max and Index over numbers; the program's busiest: the kid to which most messages belong.
  The contract of the program's busiest.
-/
import Derived.Test.YtebglpllkjgjbaaGreatOfBuild29
import Derived.Test.YtebglpllkjgjbaaGreatOfBuild28
import Derived.Test.YtebglpllkjgjbaaGreatOfBuild17
namespace Go.Proofs.YtebglpllkjgjbaaGreat
set_option maxRecDepth 100000
set_option maxHeartbeats 8000000
section
def Rt (d:Nat) (f:Int->Int × Bool) (lo hi:Int) (t:Tr):Prop:=AG d t lo hi=d/\∀k,lo<=k->k<hi->JG d t k=f k
def Seg (d:Nat) (f:Int->Int × Bool):Int->Int->List Int->List Tr->Prop
 |lo,hi,[],[t]=>Rt d f lo hi t
 |lo,hi,c::cs,t::ts=>Rt d f lo c t/\lo<c/\c<hi/\Seg d f c hi cs ts
 |_,_,_,_=>False
def Fz (lo hi:Int) (ms:ML):Prop:=∀m∈ms,okN m/\lo<=m.2.1/\m.2.1<hi
def Hk (lo hi:Int) (cs:List Int):Prop:=∀i,i<cs.length->frC cs lo i<iAt cs i/\iAt cs i<hi

variable {d:Nat} {f g h:Int->Int × Bool}

theorem Rt.congr {lo hi:Int} {t:Tr} (a:Rt d f lo hi t) (e:∀k,lo<=k->k<hi->f k=g k):Rt d g lo hi t:=⟨a.1,fun k h1 h2=>(a.2 k h1 h2).trans (e k h1 h2)⟩
theorem Seg.len:∀ {cs:List Int} {lo hi:Int} {ts:List Tr},Seg d f lo hi cs ts->cs.length+1=ts.length
 |[],_,_,[_],_=>rfl
 |[],_,_,[],a=>a.elim
 |[],_,_,_::_::_,a=>a.elim
 |_::_,_,_,[],a=>a.elim
 |_::cs,_,_,_::ts,⟨_,_,_,a⟩=>by have:=a.len;simp only[List.length_cons];omega
theorem Seg.congr:∀ {cs:List Int} {lo hi:Int} {ts:List Tr},Seg d f lo hi cs ts->(∀k,lo<=k->k<hi->f k=g k)->Seg d g lo hi cs ts
 |[],_,_,[_],a,e=>Rt.congr a e
 |[],_,_,[],a,_=>a.elim
 |[],_,_,_::_::_,a,_=>a.elim
 |_::_,_,_,[],a,_=>a.elim
 |_::_,_,_,_::_,⟨a,b,c,r⟩,e=>⟨a.congr fun k h1 h2=>e k h1 (by omega),b,c,r.congr fun k h1 h2=>e k (by omega) h2⟩
theorem Seg.append:∀ {cs1:List Int} {lo c hi:Int} {ts1:List Tr} {cs2:List Int} {ts2:List Tr},Seg d f lo c cs1 ts1->lo<c->c<hi->Seg d f c hi cs2 ts2->Seg d f lo hi (cs1++c::cs2) (ts1++ts2)
 |[],_,_,_,[_],_,_,a,h1,h2,r=>⟨a,h1,h2,r⟩
 |[],_,_,_,[],_,_,a,_,_,_=>a.elim
 |[],_,_,_,_::_::_,_,_,a,_,_,_=>a.elim
 |_::_,_,_,_,[],_,_,a,_,_,_=>a.elim
 |_::_,_,_,_,_::_,_,_,⟨a,b,c0,r0⟩,_,h2,r=>⟨a,b,by omega,r0.append c0 h2 r⟩
theorem Seg.drop:∀ {i:Nat} {cs:List Int} {lo hi:Int} {ts:List Tr},Seg d f lo hi cs ts->i<ts.length->Seg d f (frC cs lo i) hi (cs.drop i) (ts.drop i)
 |0,_,_,_,_,a,_=>a
 |i+1,[],_,_,ts,a,hi0=>by have:=a.len;simp at this;omega
 |_+1,_::_,_,_,[],a,_=>a.elim
 |i+1,c::cs,lo,hi,t::ts,⟨_,_,_,r⟩,hi0=>by
  have:=r.drop (i:=i) (by simpa using hi0)
  rw[List.drop_succ_cons,List.drop_succ_cons]
  cases i with
  |zero=>simpa[frC,iAt] using this
  |succ i=>simpa[frC,iAt] using this
theorem Seg.take:∀ {n:Nat} {cs:List Int} {lo hi:Int} {ts:List Tr},Seg d f lo hi cs ts->n<ts.length->Seg d f lo (toC cs hi n) (cs.take n) (ts.take (n+1))
 |0,[],_,_,[_],a,_=>a
 |_,[],_,_,[],a,_=>a.elim
 |_,[],_,_,_::_::_,a,_=>a.elim
 |_+1,[],_,_,[_],_,hn=>by simp at hn
 |_,_::_,_,_,[],a,_=>a.elim
 |0,_::_,_,_,_::_,⟨a,_,_,_⟩,_=>by simpa[toC,iAt,Seg] using a
 |n+1,c::cs,lo,hi,t::ts,⟨a,b,c0,r⟩,hn=>by
  have h1:=r.take (n:=n) (by simpa using hn)
  have e:toC (c::cs) hi (n+1)=toC cs hi n:=by simp[toC,iAt]
  rw[List.take_succ_cons,List.take_succ_cons,e]
  refine⟨a,b, ?_,h1⟩
  unfold toC;split
  ·rename_i hlt
   clear h1 e hn a b;induction cs generalizing c ts n with
   |nil=>simp at hlt
   |cons c1 cs ih=>
    cases ts with
    |nil=>exact r.elim
    |cons t1 ts=>
     obtain⟨_,r1,r2,r3⟩:=r
     cases n with
     |zero=>simpa[iAt] using r1
     |succ n=>
      have:=ih (c:=c1) (ts:=ts) r2 r3 (n:=n) (by simpa using hlt)
      simp only[iAt,List.getD_cons_succ] at this ⊢
      omega
  ·exact c0
theorem Seg.cuts:∀ {cs:List Int} {lo hi:Int} {ts:List Tr},Seg d f lo hi cs ts->Hk lo hi cs
 |[],_,_,_,_=>fun i h=>by simp at h
 |_::_,_,_,[],a=>a.elim
 |c::cs,lo,hi,t::ts,⟨_,b,c0,r⟩=>fun i h=>by
  cases i with
  |zero=>simpa[frC,iAt] using⟨b,c0⟩
  |succ i=>
   have:=r.cuts i (by simpa using h)
   cases i with
   |zero=>simpa[frC,iAt] using this
   |succ i=>simpa[frC,iAt] using this
theorem Seg.at:∀ {cs:List Int} {lo hi:Int} {ts:List Tr},Seg d f lo hi cs ts->∀i,i<ts.length->Rt d f (frC cs lo i) (toC cs hi i) (ts.getD i Aj):=fun a i hi0=>by
 have h1:=a.drop hi0
 have h2:=h1.take (n:=0) (by rw[List.length_drop];omega)
 rename_i cs lo hi ts
 have e1:(ts.drop i).take (0+1)=[ts.getD i Aj]:=by
  rw[List.drop_eq_getElem_cons hi0,List.take_succ_cons,List.take_zero];simp[List.getD,hi0]
 have e2:toC (cs.drop i) hi 0=toC cs hi i:=by
  unfold toC;by_cases hc:i<cs.length
  ·rw[if_pos (by simp;omega),if_pos hc];simp[iAt,List.getD]
  ·rw[if_neg (by simp;omega),if_neg hc]
 rw[e1,e2,List.take_zero] at h2
 exact h2
theorem Seg.of:∀ {cs:List Int} {lo hi:Int} {ts:List Tr},cs.length+1=ts.length->Hk lo hi cs->(∀i,i<ts.length->Rt d f (frC cs lo i) (toC cs hi i) (ts.getD i Aj))->Seg d f lo hi cs ts
 |[],lo,hi,[t],_,_,a=>by
  show Rt d f lo hi t
  simpa[frC,toC] using a 0 (by simp)
 |[],_,_,[],hl,_,_=>by simp at hl
 |[],_,_,_::_::_,hl,_,_=>by simp at hl
 |_::_,_,_,[],hl,_,_=>by simp at hl
 |c::cs,lo,hi,t::ts,hl,hc,a=>by
  have a0:=a 0 (by simp)
  have c0:=hc 0 (by simp)
  simp only[frC,toC,if_true,List.length_cons,Nat.zero_lt_succ,iAt,List.getD_cons_zero] at a0 c0
  refine⟨a0,c0.1,c0.2,Seg.of (by simpa using hl) (fun i hi0=> ?_) (fun i hi0=> ?_)⟩
  ·have:=hc (i+1) (by simpa using hi0)
   cases i with
   |zero=>simpa[frC,iAt] using this
   |succ i=>simpa[frC,iAt] using this
  ·have:=a (i+1) (by simpa using hi0)
   simp only[frC,toC,iAt,Nat.add_one_ne_zero,if_false,Nat.add_sub_cancel,List.getD_cons_succ,List.length_cons,Nat.add_lt_add_iff_right] at this ⊢
   cases i with
   |zero=>simpa using this
   |succ i=>simpa using this

theorem Hk.tail {c lo hi:Int} {cs:List Int} (a:Hk lo hi (c::cs)):lo<c/\c<hi/\Hk c hi cs:=by
 have c0:=a 0 (by simp)
 simp only[frC,if_true,iAt,List.getD_cons_zero] at c0
 refine⟨c0.1,c0.2,fun i hi0=> ?_⟩
 have:=a (i+1) (by simpa using hi0)
 cases i with
 |zero=>simpa[frC,iAt] using this
 |succ i=>simpa[frC,iAt] using this
theorem Hk.lo {lo hi:Int} {cs:List Int} (a:Hk lo hi cs):∀i,i<cs.length->lo<iAt cs i:=by
 induction cs generalizing lo with
 |nil=>intro i h;simp at h
 |cons c cs ih=>
  obtain⟨h1,h2,h3⟩:=a.tail
  intro i hi0
  cases i with
  |zero=>simpa[iAt] using h1
  |succ i=>
   have:=ih h3 i (by simpa using hi0)
   simp only[iAt,List.getD_cons_succ] at this ⊢
   omega
theorem Hk.asc {lo hi:Int} {cs:List Int} (a:Hk lo hi cs):∀i j,i<j->j<cs.length->iAt cs i<iAt cs j:=by
 induction cs generalizing lo with
 |nil=>intro i j _ h;simp at h
 |cons c cs ih=>
  obtain⟨h1,h2,h3⟩:=a.tail
  intro i j hij hj
  cases j with
  |zero=>omega
  |succ j=>
   cases i with
   |zero=>
    have:=h3.lo j (by simpa using hj)
    simpa[iAt] using this
   |succ i=>
    have:=ih h3 i j (by omega) (by simpa using hj)
    simpa[iAt] using this
theorem Hk.pref {lo hi:Int} {cs:List Int} (a:Hk lo hi cs) {i:Nat} (hi0:i<=cs.length) {k:Int} (h1:frC cs lo i<=k) (h2:k<toC cs hi i):AJ cs k=i:=by
 refine Rb hi0 (fun j hj=> ?_) (fun hlt=> ?_)
 ·unfold frC at h1;rw[if_neg (by omega)] at h1
  by_cases e:j=i-1
  ·rw[e];exact h1
  ·have:=a.asc j (i-1) (by omega) (by omega)
   omega
 ·unfold toC at h2;rw[if_pos hlt] at h2
  omega
theorem Hk.cnt {lo hi:Int} {cs:List Int} (a:Hk lo hi cs) (k:Int):Fa cs k cs.length=AJ cs k:=Om a.asc
theorem Hk.mineK {lo hi:Int} {cs:List Int} (a:Hk lo hi cs) (i:Nat) (b:ML):mineK cs i b=Ao cs i b:=by
 unfold YtebglpllkjgjbaaGreat.mineK Ao
 congr 1
 funext m
 rw[a.cnt]

theorem Seg.put:∀ {cs:List Int} {lo hi:Int} {ts:List Tr} {i:Nat} {x:TM},Seg d f lo hi cs ts->i<ts.length->Seg d h (frC cs lo i) (toC cs hi i) x.2 x.1->(∀k,lo<=k->k<hi->AJ cs k≠i->f k=h k)→
  Seg d h lo hi (cs.take i++x.2++cs.drop i) (ts.take i++x.1++ts.drop (i+1))
 |[],_,_,[],_,_,a,_,_,_=>a.elim
 |[],_,_,_::_::_,_,_,a,_,_,_=>a.elim
 |_::_,_,_,[],_,_,a,_,_,_=>a.elim
 |[],lo,hi,[t],i,x,_,hi0,b,_=>by
  have e:i=0:=by simp at hi0;omega
  subst e;simpa[frC,toC] using b
 |c::cs,lo,hi,t::ts,0,x,⟨a,a1,a2,r⟩,_,b,e=>by
  have b' :Seg d h lo c x.2 x.1:=by simpa[frC,toC,iAt] using b
  have r' :Seg d h c hi cs ts:=r.congr fun k h1 h2=>e k (by omega) h2 (by rw[EZ h1];omega)
  simpa using b'.append a1 a2 r'
 |c::cs,lo,hi,t::ts,i+1,x,⟨a,a1,a2,r⟩,hi0,b,e=>by
  have b' :Seg d h (frC cs c i) (toC cs hi i) x.2 x.1:=by
   have e1:frC (c::cs) lo (i+1)=frC cs c i:=by
    cases i with
    |zero=>simp[frC,iAt]
    |succ i=>simp[frC,iAt]
   have e2:toC (c::cs) hi (i+1)=toC cs hi i:=by simp[toC,iAt]
   rw[e1,e2] at b
   exact b
  have r' :=r.put (i:=i) (by simpa using hi0) b' (fun k h1 h2 h3=>e k (by omega) h2 (by rw[EZ h1];omega))
  rw[List.take_succ_cons,List.take_succ_cons,List.drop_succ_cons,List.drop_succ_cons]
  exact⟨a.congr fun k h1 h2=>e k h1 (by omega) (by rw[Gi (by omega)];omega),a1,a2,r'⟩

theorem Seg.both {m:TM} {lo hi:Int} (F:Nat->TM) (hl:m.2.length+1=m.1.length) (hc:Hk lo hi m.2) (a:∀i,i<m.1.length->Seg d h (frC m.2 lo i) (toC m.2 hi i) (F i).2 (F i).1):Seg d h lo hi (GW F m).2 (GW F m).1:=by
 have key:∀j,j<m.1.length->Seg d h lo (toC m.2 hi j) (Cx F m.2 (j+1)) (AU F (j+1)):=by
  intro j;induction j with
  |zero=>
   intro hj;have:=a 0 hj
   simpa[Cx,AU,frC] using this
  |succ j ih=>
   intro hj;have h1:=ih (by omega)
   have h2:=a (j+1) hj
   have e1:toC m.2 hi j=iAt m.2 j:=by rw[toC,if_pos (by omega)]
   have e2:frC m.2 lo (j+1)=iAt m.2 j:=by rw[frC,if_neg (by omega),Nat.add_sub_cancel]
   rw[e1] at h1
   rw[e2] at h2
   have h3:iAt m.2 j<toC m.2 hi (j+1):=by
    unfold toC;split
    ·have:=(hc (j+1) (by assumption)).1
     rw[e2] at this
     exact this
    ·exact(hc j (by omega)).2
   have:=h1.append (hc.lo j (by omega)) h3 h2
   have e3:Cx F m.2 (j+1+1)=Cx F m.2 (j+1)++iAt m.2 j::(F (j+1)).2:=by
    rw[Cx,if_pos (by omega),Nat.add_sub_cancel,List.append_assoc];rfl
   rw[e3,AU]
   exact this
 have:=key (m.1.length-1) (by omega)
 rw[show m.1.length-1+1=m.1.length by omega,toC,if_neg (by omega)] at this
 exact this
end
section
variable {d:Nat} {f g h:Int->Int × Bool}

theorem VS {l:PL} (a:CY l):Bf l=true:=(Ez _).2 a
theorem Rt.leaf {ps:PL} {lo hi:Int} (a:CY ps) (b:Gc lo hi ps) (hl:ps.length<=4):Rt 1 (AA ps) lo hi (Ds ps):=by
 refine⟨?_,fun k _ _=>Ir rfl⟩
 rw[Dg rfl,if_pos]
 simp only[Bx,Bool.and_eq_true,decide_eq_true_eq]
 refine⟨VS a,hl,rfl,DG fun i hi0=> ?_⟩
 have:=b ps[i] (List.getElem_mem hi0)
 refine Ew.2 ?_
 have e:kOf (Ds ps).pairs i=(ps[i]'hi0).1:=by
  show kOf ps i=_
  rw[kOf,List.getD,List.getElem?_eq_getElem (show i<ps.length from hi0)];rfl
 rw[e]
 omega
theorem Rt.fork {lo hi:Int} {cs:List Int} {ts:List Tr} {b:ML} (a:Seg d f lo hi cs ts) (hd:0<d) (h2:2<=ts.length) (h4:ts.length<=4) (hb:b.length<=6) (hm:Fz lo hi b) :
  Rt (d+1) (fun k=>Fu (f k) (ofK b k)) lo hi ⟨false,[],cs,ts,b⟩:=by
 have hl:=a.len
 have hc:=a.cuts
 have hf:BK ⟨false,[],cs,ts,b⟩ lo hi=true:=by
  simp only[BK,En,Bool.and_eq_true,decide_eq_true_eq]
  refine⟨⟨rfl,⟨h2,h4⟩,hl,hb⟩,DG fun i hi0=> ?_,DG fun i hi0=> ?_⟩
  ·obtain⟨⟨m1,m2⟩,m3,m4⟩:=hm b[i] (List.getElem_mem hi0)
   rw[DW b i hi0] at m1 m2 m3 m4
   simp only[Ff,Bool.and_eq_true]
   refine⟨m1,by simpa using m2,Ew.2 ⟨m3, ?_⟩⟩
   have:mK b i<hi:=m4
   show mK b i<=hi-1
   omega
  ·have:=hc i hi0
   refine Ew.2 ?_
   unfold frC at this;show Dw ⟨false,[],cs,ts,b⟩ lo i+1<=iAt cs i/\iAt cs i<=hi-1
   unfold Dw;show(if i=0 then lo else iAt cs (i-1))+1<=_/\_
   omega
 have hk:∀i,i<ts.length->CD d ⟨false,[],cs,ts,b⟩ lo hi i=d:=fun i hi0=>(a.at i hi0).1
 refine⟨?_,fun k h1 h3=> ?_⟩
 ·rw[Dv rfl hf,F9]
  ·rw[hk 0 (by omega)]
  ·rw[hk 0 (by omega)];omega
  ·intro i hi0;rw[hk i hi0,hk 0 (by omega)]
 ·rw[Ij rfl]
  have hp:=GU cs k
  have hr:=Hy hp hc ⟨h1,h3⟩ rfl
  have:=(a.at (AJ cs k) (by omega)).2 k hr.1 hr.2
  show Fu (JG d (ts.getD (AJ cs k) Aj) k) (ofK b k)=_
  rw[this]
theorem Rt.fork0 {lo hi:Int} {cs:List Int} {ts:List Tr} (a:Seg d f lo hi cs ts) (hd:0<d) (h2:2<=ts.length) (h4:ts.length<=4):Rt (d+1) f lo hi ⟨false,[],cs,ts,[]⟩:=
 Rt.fork a hd h2 h4 (by simp) (fun m hm=>by simp at hm)
theorem W9 {e:Nat->Nat} {n r:Nat} (hr:El e n=r+1):∀i,i<n->e i=r:=by
 intro i hi0;unfold El at hr;split at hr
 ·rename_i hq
  simp only[Bool.and_eq_true] at hq
  have:=Hm hq.2 hi0
  simp only[beq_iff_eq] at this
  omega
 ·omega
theorem Rt.kids {lo hi:Int} {T:Tr} (a:AG (d+1) T lo hi=d+1) (hl:T.leaf=false):BK T lo hi=true/\Seg d (fun k=>JG d (Qo T k) k) lo hi T.cuts T.kids:=by
 have hf:=(Bj (m:=d) (T:=T) (lo:=lo) (hi:=hi) (by omega) hl).1
 refine⟨hf, ?_⟩
 obtain⟨q1,q2,q3,q4,q5,q6⟩:=Bv hf
 have hc:Hk lo hi T.cuts:=Ip q6
 rw[Dv hl hf] at a
 have hk:=W9 a
 refine Seg.of q3 hc fun i hi0=>⟨hk i hi0,fun k h1 h2=> ?_⟩
 have:=hc.pref (i:=i) (by omega) h1 h2
 show _=JG d (Bb T (AJ T.cuts k)) k
 rw[this];rfl

theorem PH {l:PL} (a:Asc l) {i j:Nat} (hij:i<j) (hj:j<l.length):kOf l i<kOf l j:=by
 have h1:=List.pairwise_iff_getElem.1 a i j (by simpa[Bo] using(by omega:i<l.length)) (by simpa[Bo] using hj) hij
 have h2:i<l.length:=by omega
 simpa[Bo,kOf,List.getD,hj,h2] using h1
theorem QB {l:PL} (a:CY l) (i n:Nat):CY ((l.drop i).take n):=
 ⟨List.Pairwise.sublist (List.Sublist.map Prod.fst ((List.take_sublist _ _).trans (List.drop_sublist _ _))) a.1,fun p hp=>a.2 p (List.mem_of_mem_drop (List.mem_of_mem_take hp))⟩
theorem Qu {l:PL} {i n:Nat} {k:Int} (h1:∀j,j<i->j<l.length->kOf l j<k) (h2:∀j,i+n<=j->j<l.length->k<kOf l j):AA ((l.drop i).take n) k=AA l k:=by
 have e:l=l.take i++((l.drop i).take n++(l.drop i).drop n):=by rw[List.take_append_drop,List.take_append_drop]
 conv=>rhs;rw[e]
 rw[Gv (fun p hp=> ?_),Fi (fun p hp=> ?_)]
 ·rw[List.drop_drop] at hp
  obtain⟨j,hj,hk⟩:=List.getElem_of_mem hp
  rw[List.getElem_drop] at hk
  rw[List.length_drop] at hj
  have:=h2 (i+n+j) (by omega) (by omega)
  have e2:kOf l (i+n+j)=p.1:=by rw[←hk];simp[kOf,List.getD,show i+n+j<l.length by omega]
  omega
 ·obtain⟨j,hj,hk⟩:=List.getElem_of_mem hp
  rw[List.getElem_take] at hk
  rw[List.length_take] at hj
  have:=h1 j (by omega) (by omega)
  have e2:kOf l j=p.1:=by rw[←hk];simp[kOf,List.getD,show j<l.length by omega]
  omega
theorem Rv {l:PL} {i n:Nat} {p:Int × Int} (hp:p∈(l.drop i).take n):∃j,i<=j/\j<i+n/\j<l.length/\p.1=kOf l j:=by
 obtain⟨j,hj,hk⟩:=List.getElem_of_mem hp
 rw[List.getElem_take,List.getElem_drop] at hk
 rw[List.length_take,List.length_drop] at hj
 exact⟨i+j,by omega,by omega,by omega,by rw[←hk];simp[kOf,List.getD,show i+j<l.length by omega]⟩
theorem Xh {l:PL} (a:Asc l) {i j:Nat} (hij:i<=j) (hj:j<l.length):kOf l i<=kOf l j:=by
 rcases Nat.lt_or_ge i j with h|h
 ·exact Int.le_of_lt (PH a h hj)
 ·have:i=j:=by omega
  subst this;exact Int.le_refl _

def loF (ps:PL) (lo:Int) (i:Nat):Int:=if i=0 then lo else kOf ps i
theorem Seg.leaves {ps:PL} {lo hi:Int} (a:CY ps) (b:Gc lo hi ps):∀n i,ps.length-i<=n->i<ps.length->2<=ps.length-i->Seg 1 (AA ps) (loF ps lo i) hi (lfC ps (i+AE (ps.length-i))) (lfT ps i):=by
 intro n;induction n with
 |zero=>intro i h1 h2;omega
 |succ n ih=>
  intro i h1 h2 h3;have hm:=Bs (ps.length-i)
  rw[I6,if_pos h2]
  have h3' :ps.length-i=3->AE (ps.length-i)=3:=fun h=>by rw[h];rfl
  have hin:∀j,j<ps.length->lo<=kOf ps j/\kOf ps j<hi:=fun j hj=>by
   have:=b ps[j] (List.getElem_mem hj)
   simpa[kOf,List.getD,hj] using this
  have hlo:∀j,i<=j->j<ps.length->loF ps lo i<=kOf ps j:=fun j hij hj=>by
   unfold loF;split
   ·exact(hin j hj).1
   ·exact Xh a.1 hij hj
  have hbe:∀k,loF ps lo i<=k->∀j,j<i->j<ps.length->kOf ps j<k:=fun k hk j hji hj=>by
   unfold loF at hk;rw[if_neg (by omega)] at hk
   have:=PH a.1 hji h2
   omega
  generalize hM:AE (ps.length-i)=M at *
  have hpl:((ps.drop i).take M).length<=4:=by rw[List.length_take];omega
  by_cases he:i+M<ps.length
  ·have h4:2<=ps.length-(i+M):=by omega
   have r:=ih (i+M) (by omega) he h4
   rw[Hs,if_pos he,if_pos (by omega),List.singleton_append]
   have e1:loF ps lo (i+M)=kOf ps (i+M):=by rw[loF,if_neg (by omega)]
   rw[e1] at r
   refine⟨(Rt.leaf (QB a i M) (fun p hp=> ?_) hpl).congr fun k k1 k2=> ?_, ?_,(hin _ he).2,r⟩
   ·obtain⟨j,j1,j2,j3,j4⟩:=Rv hp
    rw[j4]
    exact⟨hlo j j1 j3,PH a.1 j2 he⟩
   ·exact Qu (hbe k k1) fun j j1 j2=>by have:=Xh a.1 j1 j2;omega
   ·have:=hlo i (Nat.le_refl _) h2
    have:=PH a.1 (show i<i+M by omega) he
    omega
  ·have e1:lfT ps (i+M)=[]:=by rw[I6,if_neg he]
   have e2:lfC ps (i+M)=[]:=by rw[Hs,if_neg he]
   rw[e1,e2]
   refine(Rt.leaf (QB a i M) (fun p hp=> ?_) hpl).congr fun k k1 k2=> ?_
   ·obtain⟨j,j1,j2,j3,j4⟩:=Rv hp
    rw[j4]
    exact⟨hlo j j1 j3,(hin j j3).2⟩
   ·exact Qu (hbe k k1) fun j j1 j2=>by omega
theorem Seg.leafM {ps:PL} {lo hi:Int} (a:CY ps) (b:Gc lo hi ps):Seg 1 (AA ps) lo hi (leafM ps).2 (leafM ps).1:=by
 unfold YtebglpllkjgjbaaGreat.leafM
 split
 ·exact Rt.leaf a b (by assumption)
 ·have:=Seg.leaves a b ps.length 0 (by omega) (by omega) (by omega)
  have e:lfC ps 0=lfC ps (0+AE (ps.length-0)):=by rw[Hs ps 0,if_pos (by omega),if_neg (by omega),List.nil_append]
  show Seg 1 (AA ps) lo hi (lfC ps 0) (lfT ps 0)
  rw[e]
  exact this

theorem Seg.packs {m:TM} {lo hi:Int} (a:Seg d f lo hi m.2 m.1) (hd:0<d):∀n i,m.1.length-i<=n->i<m.1.length->2<=m.1.length-i->Seg (d+1) f (frC m.2 lo i) hi (pkC m (i+AE (m.1.length-i))) (pkT m i):=by
 intro n;induction n with
 |zero=>intro i h1 h2;omega
 |succ n ih=>
  intro i h1 h2 h3;have hl:=a.len
  have hm:=Bs (m.1.length-i)
  rw[Kf,if_pos h2,FN]
  have h3' :m.1.length-i=3->AE (m.1.length-i)=3:=fun h=>by rw[h];rfl
  generalize hM:AE (m.1.length-i)=M at *
  have s1:=(a.drop h2).take (n:=M-1) (by rw[List.length_drop];omega)
  have e1:toC (m.2.drop i) hi (M-1)=toC m.2 hi (i+(M-1)):=by
   unfold toC;by_cases hc:i+(M-1)<m.2.length
   ·rw[if_pos (by rw[List.length_drop];omega),if_pos hc];simp[iAt,List.getD]
   ·rw[if_neg (by rw[List.length_drop];omega),if_neg hc]
  rw[e1,show M-1+1=M by omega] at s1
  have s2:=Rt.fork0 s1 hd (by rw[List.length_take,List.length_drop];omega) (by rw[List.length_take];omega)
  by_cases he:i+M<m.1.length
  ·have r:=ih (i+M) (by omega) he (by omega)
   rw[I5,if_pos he,if_pos (by omega),List.singleton_append]
   have e2:frC m.2 lo (i+M)=iAt m.2 (i+M-1):=by rw[frC,if_neg (by omega)]
   have e3:toC m.2 hi (i+(M-1))=iAt m.2 (i+M-1):=by rw[toC,if_pos (by omega),show i+(M-1)=i+M-1 by omega]
   rw[e2] at r
   rw[e3] at s2
   refine⟨s2, ?_,(a.cuts _ (by omega)).2,r⟩
   unfold frC;split
   ·exact a.cuts.lo _ (by omega)
   ·exact a.cuts.asc _ _ (by omega) (by omega)
  ·have e4:pkT m (i+M)=[]:=by rw[Kf,if_neg he]
   have e5:pkC m (i+M)=[]:=by rw[I5,if_neg he]
   have e6:toC m.2 hi (i+(M-1))=hi:=by rw[toC,if_neg (by omega)]
   rw[e4,e5]
   rw[e6] at s2
   exact s2
theorem Seg.pack {m:TM} {lo hi:Int} (a:Seg d f lo hi m.2 m.1) (hd:0<d) (h2:2<=m.1.length):Seg (d+1) f lo hi (CP m).2 (CP m).1:=by
 have:=a.packs hd m.1.length 0 (by omega) (by omega) (by omega)
 have e:pkC m 0=pkC m (0+AE (m.1.length-0)):=by rw[I5 m 0,if_pos (by omega),if_neg (by omega),List.nil_append]
 show Seg (d+1) f lo hi (pkC m 0) (pkT m 0)
 rw[e]
 exact this

def TF (d:Nat) (g:Tr->ML->TM):Prop:=∀T ms lo hi,AG d T lo hi=d->Fz lo hi ms->Seg d (fun k=>Fu (JG d T k) (ofK ms k)) lo hi (g T ms).2 (g T ms).1
theorem Fz.mine {lo hi:Int} {cs:List Int} {b:ML} (a:Fz lo hi b) (hc:Hk lo hi cs) {i:Nat} (hi0:i<=cs.length):Fz (frC cs lo i) (toC cs hi i) (Ao cs i b):=fun m hm=>by
 obtain⟨h1,h2⟩:=List.mem_filter.1 hm
 obtain⟨h3,h4⟩:=a m h1
 exact⟨h3,Hy hi0 hc h4 (by simpa using h2)⟩
theorem Fz.rest {lo hi:Int} {cs:List Int} {b:ML} (a:Fz lo hi b) (i:Nat):Fz lo hi (AY cs i b):=fun m hm=>a m (List.mem_filter.1 hm).1
theorem LI {cs:List Int} {k:Int} {i:Nat} (b:ML) (e:AJ cs k=i):ofK (Ao cs i b) k=ofK b k/\ofK (AY cs i b) k=[]:=by
 constructor
 ·unfold ofK Ao;rw[List.filter_filter]
  refine List.filter_congr fun m _=> ?_
  by_cases hm:m.2.1=k<;>simp[hm,e]
 ·refine List.filter_eq_nil_iff.2 fun m hm=> ?_
  have:=(List.mem_filter.1 hm).2
  intro h1;simp at h1
  rw[h1,e] at this
  simp at this
theorem W8 {cs:List Int} {k:Int} {i:Nat} (b:ML) (e:AJ cs k≠i):ofK (AY cs i b) k=ofK b k/\ofK (Ao cs i b) k=[]:=by
 constructor
 ·unfold ofK AY;rw[List.filter_filter]
  refine List.filter_congr fun m _=> ?_
  by_cases hm:m.2.1=k<;>simp[hm,e]
 ·refine List.filter_eq_nil_iff.2 fun m hm=> ?_
  have:=(List.mem_filter.1 hm).2
  intro h1;simp at h1
  rw[h1] at this
  simp[e] at this
theorem Seg.kid {G:Tr->ML->TM} (hg:TF d G) {m:TM} {lo hi:Int} {b:ML} (a:Seg d f lo hi m.2 m.1) (hb:Fz lo hi b) {i:Nat} (hi0:i<m.1.length):Seg d (fun k=>Fu (f k) (ofK b k)) (frC m.2 lo i) (toC m.2 hi i) (G (m.1.getD i Aj) (Ao m.2 i b)).2 (G (m.1.getD i Aj) (Ao m.2 i b)).1:=by
 have hl:=a.len
 have hr:=a.at i hi0
 refine(hg _ _ _ _ hr.1 (hb.mine a.cuts (by omega))).congr fun k h1 h2=> ?_
 rw[hr.2 k h1 h2,(LI b (a.cuts.pref (by omega) h1 h2)).1]
theorem Seg.down {G:Tr->ML->TM} (hg:TF d G) {m:TM} {lo hi:Int} {b:ML} (a:Seg d f lo hi m.2 m.1) (hb:Fz lo hi b):Seg d (fun k=>Fu (f k) (ofK b k)) lo hi (CM G m b).2 (CM G m b).1:=by
 rw[LZ]
 have hl:=a.len
 refine Seg.both _ hl a.cuts fun i hi0=> ?_
 unfold Cz;split
 ·exact a.kid hg hb hi0
 ·rename_i hz
  have hz' :Ao m.2 i b=[]:=List.length_eq_zero_iff.1 (by omega)
  refine(a.at i hi0).congr fun k h1 h2=> ?_
  rw[←(LI b (a.cuts.pref (by omega) h1 h2)).1,hz'];rfl
theorem Seg.loop {G:Tr->ML->TM} (hg:TF d G) {lo hi:Int}:∀n (m:TM) (b:ML) (f:Int->Int × Bool),Seg d f lo hi m.2 m.1->Fz lo hi b→
  ∃f',Seg d f' lo hi (Bt G n m b).1.2 (Bt G n m b).1.1/\Fz lo hi (Bt G n m b).2/\∀k,lo<=k->k<hi->Fu (f' k) (ofK (Bt G n m b).2 k)=Fu (f k) (ofK b k)
 |0,m,b,f,a,hb=>⟨f,a,hb,fun _ _ _=>rfl⟩
 |n+1,m,b,f,a,hb=>by
  rw[Bt]
  split
  ·have hl:=a.len
   have hat:=(Do m.2 b m.1.length (by omega)).1
   generalize (Ah m.2 b m.1.length).1=i at *
   let hh:Int->Int × Bool:=fun k=>if AJ m.2 k=i then Fu (f k) (ofK b k) else f k
   have p1:Seg d hh (frC m.2 lo i) (toC m.2 hi i) (G (m.1.getD i Aj) (Ao m.2 i b)).2 (G (m.1.getD i Aj) (Ao m.2 i b)).1:=
    (a.kid hg hb hat).congr fun k h1 h2=>by
     show _=if _ then _ else _
     rw[if_pos (a.cuts.pref (by omega) h1 h2)]
   have p2:Seg d hh lo hi (BD m i (G (m.1.getD i Aj) (Ao m.2 i b))).2 (BD m i (G (m.1.getD i Aj) (Ao m.2 i b))).1:=
    a.put hat p1 fun k _ _ h3=>by
     show _=if _ then _ else _
     rw[if_neg h3]
   obtain⟨f',q1,q2,q3⟩:=Seg.loop hg n _ (AY m.2 i b) hh p2 (hb.rest i)
   refine⟨f',q1,q2,fun k h1 h2=>(q3 k h1 h2).trans ?_⟩
   show Fu (if AJ m.2 k=i then Fu (f k) (ofK b k) else f k) _=_
   by_cases e:AJ m.2 k=i
   ·rw[if_pos e,(LI b e).2];rfl
   ·rw[if_neg e,(W8 b e).1]
  ·exact⟨f,a,hb,fun _ _ _=>rfl⟩
theorem Fz.shrink {lo hi:Int} {b:ML} (a:∀m∈b,lo<=m.2.1/\m.2.1<hi):Fz lo hi (Av b):=fun m hm=>by
 obtain⟨x,hx,he⟩:=Q8 hm
 exact⟨Lk b m hm,by rw[←he];exact a x hx⟩
theorem UX:∀d,TF (d+1) (Ad (d+1)):=by
 intro d;induction d with
 |zero=>
  intro T ms lo hi hT hms
  cases hl:T.leaf
  ·have hk:=(Bj (m:=0) (T:=T) (lo:=lo) (hi:=hi) (by omega) hl)
   have:=hk.2 0 (by have:=(Bv hk.1).2.1.1;omega)
   exact absurd rfl this
  ·obtain⟨q1,q2,q3,q4,q5,q6⟩:=Cq (Bl (m:=0) (T:=T) (lo:=lo) (hi:=hi) (by omega) hl)
   rw[Ad,if_pos hl]
   refine(Seg.leafM (JX q1 ms) (JK q6 fun m hm=>(hms m hm).2)).congr fun k _ _=> ?_
   rw[JT q1,Ir hl]
 |succ d ih=>
  intro T ms lo hi hT hms
  cases hl:T.leaf
  ·obtain⟨hf,hs⟩:=Rt.kids hT hl
   obtain⟨q1,q2,q3,q4,q5,q6⟩:=Bv hf
   have hb:=Gz q5
   rw[Ad,if_neg (by rw[hl];simp)]
   have hB:Fz lo hi (Av (T.buf++ms)):=Fz.shrink fun m hm=>(List.mem_append.1 hm).elim (fun h1=>(hb m h1).2) (fun h1=>(hms m h1).2)
   obtain⟨f',r1,r2,r3⟩:=Seg.loop ih (Av (T.buf++ms)).length (T.kids,T.cuts) (Av (T.buf++ms)) _ hs hB
   have hsh:=(LQ (Ce (d+1)) (Av (T.buf++ms)).length (T.kids,T.cuts) (Av (T.buf++ms)) ⟨q3,fun t ht=>by
    obtain⟨i,hi0,rfl⟩:=List.getElem_of_mem ht
    have e:=(hs.at i hi0).1
    have e2:T.kids.getD i Aj=T.kids[i]:=by simp[List.getD,hi0]
    rw[e2] at e
    have:=GG (m:=d+1) (T:=T.kids[i]) (lo:=frC T.cuts lo i) (up:=toC T.cuts hi i) (by omega)
    rw[e] at this
    exact this⟩ (Nat.le_refl _))
   have hval:∀k,lo<=k->k<hi->Fu (f' k) (ofK (Bt (Ad (d+1)) (Av (T.buf++ms)).length (T.kids,T.cuts) (Av (T.buf++ms))).2 k)=Fu (JG (d+1+1) T k) (ofK ms k):=fun k h1 h2=>by
    rw[r3 k h1 h2,R5,LW,Hz,Ij hl]
   generalize Bt (Ad (d+1)) (Av (T.buf++ms)).length (T.kids,T.cuts) (Av (T.buf++ms))=r at *
   unfold Iw;split
   ·have hd:=Seg.down ih r1 r2
    exact((hd.pack (by omega) (by have:=(Hv (Ce (d+1)) hsh.1 r.2).2.2;omega))).congr hval
   ·exact(Rt.fork r1 (by omega) (by have:=hsh.2.2.1;simp only at this;omega) (by omega) hsh.2.2.2 r2).congr hval
  ·have:=Dg (m:=d+1) (T:=T) (lo:=lo) (hi:=hi) hl
   rw[hT] at this
   split at this<;>omega
end
section
open Go.RowKit

theorem WU (v:Value) (l:List Int) (w:World) (hr:Row w v l.length (Ac l)) (h0:0<l.length) (hb:∀i,i<l.length-> -9223372036854775808<=iAt l i/\iAt l i<=9223372036854775807) :
  Calls Tryz.prog 131 #[v] w fun e w' =>∃r:Int,e= .returned (.int .i64 r)/\(∀i,i<l.length->iAt l i<=r)/\(∃i,i<l.length/\iAt l i=r)/\w' =w:=by
 obtain⟨a,b,off,cap,rfl,hcap,hmax,ha,hk⟩:=hr.ints
 have hal:=ha h0
 subst hal;unfold maxLen at hmax;have HK:Hid _:=hk
 have d0:=hk 0 h0
 simp only[Nat.add_zero] at d0
 have HB:Hid _:=hb
 have hb0:=hb 0 h0
 have P0:Hid (∀i,i<1->iAt l i<=iAt l 0):=fun i hi=>by rw[show i=0 by omega];exact Int.le_refl _
 have E0:Hid (∃i,i<l.length/\iAt l i=iAt l 0):=⟨0,h0,rfl⟩
 clear hk hb;generalize hn:l.length=n at *
 clear hn;have hn1:¬((n:Int)<1):=by omega
 go_enter Tryz.func131,Tryz.ntmps131
 go_wp2;go_loopw [3,4] (fun s ix wr=>w=wr/\∃(k:Nat) (r:Int),s= .int .i64 r/\ix= .int .i64 k/\1<=k/\k<=n/\Hid (∀i,i<k->iAt l i<=r)/\Hid (∃i,i<n/\iAt l i=r))
  (fun _ ix _=>n-(intOf ix).toNat)
 case atStart=>exact⟨rfl,1,_,rfl,rfl,Nat.le_refl _,by omega,P0,E0⟩
 case round=>
  obtain⟨rfl,k,r,rfl,rfl,hk1,hkn,PR,ER⟩:=hrel
  by_cases hlt:k<n
  ·have dk:=HK.out k hlt
   have bk:=HB.out k hlt
   have PM:Hid (∀i,i<k+1->iAt l i<=max r (iAt l k)):=fun i hi=>by
    by_cases e:i=k
    ·rw[e];omega
    ·have:=PR.out i (by omega);omega
   have EM:Hid (∃i,i<n/\iAt l i=max r (iAt l k)):=by
    by_cases e:iAt l k<=r
    ·obtain⟨i,h1,h2⟩:=ER.out
     exact⟨i,h1,by rw[h2];omega⟩
    ·exact⟨k,hlt,by omega⟩
   generalize iAt l k=xk at *
   have hkn' :(k:Int)<(n:Int):=by omega
   have hk0:(0:Int)<=(k:Int):=by omega
   go_wp2;go_roundw
   case rel=>exact⟨trivial,k+1,max r xk,by first|rfl|go_num,by go_num,by omega,by omega,PM,EM⟩
   case measure=>simp[intOf];omega
  ·have hkn' :¬((k:Int)<(n:Int)):=by omega
   go_wp2;go_ret;exact⟨r,rfl,fun i hi=>PR.out i (by omega),ER.out,rfl⟩

theorem Sc (v:Value) (l:List Int) (x:Int) (i:Nat) (w:World) (hr:Row w v l.length (Ac l)) (hi:i<l.length) (h1:iAt l i=x) (h2:∀j,j<i->iAt l j≠x) :
  Calls Tryz.prog 130 #[v, .int .i64 x] w fun e w' =>e= .returned (.int .i64 (i:Nat))/\w' =w:=by
 obtain⟨a,b,off,cap,rfl,hcap,hmax,ha,hk⟩:=hr.ints
 have hal:=ha (by omega)
 subst hal;unfold maxLen at hmax;have HK:Hid _:=hk
 have H2:Hid _:=h2
 have H1:Hid _:=h1
 clear hk h1 h2;generalize hn:l.length=n at *
 clear hn;go_enter Tryz.func130,Tryz.ntmps130
 go_wp2;go_loopw [8] (fun ix wr=>w=wr/\∃k:Nat,ix= .int .i64 k/\k<=i) (fun ix _=>n-(intOf ix).toNat)
 case atStart=>exact⟨rfl,0,rfl,Nat.zero_le _⟩
 case round=>
  obtain⟨rfl,k,rfl,hki⟩:=hrel
  have dk:=HK.out k (by omega)
  have hkn' :(k:Int)<(n:Int):=by omega
  have hk0:(0:Int)<=(k:Int):=by omega
  by_cases e:k=i
  ·have e2:iAt l k=x:=by rw[e];exact H1.out
   rw[e2] at dk
   have E:Hid (k=i):=e
   clear e e2;go_wp2;go_ret;exact⟨by rw[E.out];rfl,rfl⟩
  ·have e2:=H2.out k (by omega)
   generalize iAt l k=xk at *
   have e3:(x==xk)=false:=by rw[beq_eq_false_iff_ne];exact fun h=>e2 h.symm
   go_wp2;go_roundw
   case rel=>exact⟨trivial,k+1,by go_num,by omega⟩
   case measure=>simp[intOf];omega

theorem Pe (cs:List Int) (b:ML):∀n j,j<(Ah cs b n).1->((Ao cs j b).length:Int)<(Ah cs b n).2:=by
 intro n;induction n with
 |zero=>intro j h;simp[Ah] at h
 |succ n ih=>
  intro j;rw[Ah]
  split
  ·rename_i h
   intro hj;have:=JZ cs b n j hj
   simp only
   omega
  ·exact ih j
end
section
open Go.RowKit

def ES (cs:List Int) (b:ML) (k:Nat):List Int:=(List.range (cs.length+1)).map fun i=>((Ao cs i (b.take k)).length:Int)
theorem Gw (cs:List Int) (b:ML) (k:Nat):(ES cs b k).length=cs.length+1:=by simp[ES]
theorem Jw (cs:List Int) (b:ML) (k i:Nat) (h:i<cs.length+1):iAt (ES cs b k) i=((Ao cs i (b.take k)).length:Int):=by
 simp[ES,iAt,List.getD,h]
theorem Vs (cs:List Int) (b:ML):ES cs b 0=List.replicate (cs.length+1) 0:=by
 rw[ES]
 refine List.ext_getElem (by simp) fun i h1 h2=> ?_
 simp[Ao]
theorem VD (cs:List Int) (b:ML) (k:Nat) (h:k<b.length):ES cs b (k+1)=(ES cs b k).set (AJ cs (mK b k)) (iAt (ES cs b k) (AJ cs (mK b k))+1):=by
 have hp:=GU cs (mK b k)
 refine List.ext_getElem (by simp[ES]) fun i h1 h2=> ?_
 have hi:i<cs.length+1:=by rw[Gw] at h1;exact h1
 rw[List.getElem_set]
 have e1:(ES cs b (k+1))[i]=iAt (ES cs b (k+1)) i:=by simp[iAt,List.getD,h1]
 rw[e1,Jw _ _ _ _ hi,Lf cs i b k h]
 split
 ·rename_i hq
  rw[hq,Jw _ _ _ _ hi]
  simp
 ·rename_i hq
  have h3:i<(ES cs b k).length:=by rw[Gw];exact hi
  have e2:(ES cs b k)[i]=iAt (ES cs b k) i:=by simp[iAt,List.getD,h3]
  rw[e2,Jw _ _ _ _ hi]

theorem QM (vc vb:Value) (cs:List Int) (b:ML) (lo hi:Int) (w:World) (hc:Row w vc cs.length (Ac cs)) (hb:Row w vb b.length (Ag b)) (hs:Hk lo hi cs) (hn:cs.length<=1048576) (hm:b.length<=2097152) :
  Calls Tryz.prog 120 #[vc,vb] w fun e w' =>e= .returned (.int .i64 ((Ah cs b (cs.length+1)).1:Nat))/\Below w.heap.size w w' :=by
 obtain⟨i0,hi0,hz0,hz1,hz2⟩:=info_parts Tryz.info3
 obtain⟨a2,q2,hv2,_⟩:=hc.len
 have KA:Hid (∀(x:Int) (w1:World),Below w.heap.size w w1->Calls Tryz.prog 99 #[vc, .int .i64 x] w1 fun e w' =>e= .returned (.int .i64 (AJ cs x:Nat))/\Below w1.heap.size w1 w'):=fun x w1 hb' =>by
  have:=JY vc cs x w1 (hc.below hb')
  rw[hs.cnt] at this
  exact this
 subst hv2;obtain⟨a,bb,off,cap,hvb,hcap,hmax,ha,c0,c1,c2⟩:=hb.msgs
 subst hvb;unfold maxLen at hmax;have MG:Hid (∀(k:Nat) (w1:World),Below w.heap.size w w1->k<b.length->w1.cell? ⟨bb,off+k*3,none⟩=some (.int .i64 (mO b k))/\w1.cell? ⟨bb,off+k*3+1,none⟩=some (.int .i64 (mK b k))/\w1.cell? ⟨bb,off+k*3+2,none⟩=some (.int .i64 (mV b k))):=fun k w1 hb' hk=>
  ⟨Ab hb' (Aa (c0 k hk)) (c0 k hk),Ab hb' (Aa (c1 k hk)) (c1 k hk),Ab hb' (Aa (c2 k hk)) (c2 k hk)⟩
 have CS:Hid (∀k,k<b.length->ES cs b (k+1)=(ES cs b k).set (AJ cs (mK b k)) (iAt (ES cs b k) (AJ cs (mK b k))+1)):=fun k=>VD cs b k
 have CL:Hid (∀k,(ES cs b k).length=cs.length+1):=Gw cs b
 have CA:Hid (∀k i,i<cs.length+1->0<=iAt (ES cs b k) i/\iAt (ES cs b k) i<=2097152):=fun k i h=>by
  rw[Jw _ _ _ _ h]
  have:=CF cs i (b.take k)
  have:(b.take k).length<=b.length:=by rw[List.length_take];omega
  omega
 have CZ:Hid (ES cs b 0=List.replicate (cs.length+1) 0):=Vs cs b
 have PL:Hid (∀x,AJ cs x<=cs.length):=GU cs
 have FIN:Hid (∀(v:Value) (w1:World),Row w1 v (cs.length+1) (Ac (ES cs b b.length))->Calls Tryz.prog 131 #[v] w1 fun e w' =>∃r:Int,e= .returned (.int .i64 r)/\(Calls Tryz.prog 130 #[v, .int .i64 r] w1 fun e w' =>e= .returned (.int .i64 ((Ah cs b (cs.length+1)).1:Nat))/\w' =w1)/\w' =w1):=fun v w1 hr=>by
  have hl:=Gw cs b b.length
  rw[←hl] at hr
  refine(WU v _ w1 hr (by omega) (fun i h=>by have:=CA.out b.length i (by omega);omega)).mono ?_
  rintro e w' ⟨r,rfl,h1,⟨j,h2,h3⟩,rfl⟩
  refine⟨r,rfl, ?_,rfl⟩
  have hat:∀i,i<cs.length+1->iAt (ES cs b b.length) i=((Ao cs i b).length:Int):=fun i h=>by rw[Jw _ _ _ _ h,List.take_length]
  obtain⟨m1,m2⟩:=Do cs b (cs.length+1) (by omega)
  have hr2:(Ah cs b (cs.length+1)).2=r:=by
   have g1:=h1 _ (by rw[hl];exact m1)
   rw[hat _ m1, ← m2] at g1
   have g2:=JZ cs b (cs.length+1) j (by omega)
   rw[←hat j (by omega),h3] at g2
   omega
  exact Sc v _ r (Ah cs b (cs.length+1)).1 w' hr (by omega) (by rw[hat _ m1, ← m2,hr2]) (fun i h e=>by
   rw[hat i (by omega)] at e
   have:=Pe cs b (cs.length+1) i h
   omega)
 clear hc hb hs c0 c1 c2;generalize (Ah cs b (cs.length+1)).1=R at *
 have CZ2:Hid (List.replicate (cs.length+1) (Value.int .i64 0)=Ac (ES cs b 0)):=by
  show _=_
  rw[CZ.out];simp[Ac]
 generalize cs.length=nc at *
 generalize hbl:b.length=nb at *
 clear hbl;have hw1:IntKind.i64.wrap ((nc:Int)+1)=(nc:Int)+1:=by rw[IntKind.wrap_i64];omega
 go_enter Tryz.func120,Tryz.ntmps120
 go_wp2_with (at_make;refine wpList_make_full _ rfl _ _ 25 rfl w.heap.size 3 i0 _ 1 Tryz.underlying25 hi0 hz0 hz1 .i64 .i64 _ _ (nc+1) rfl rfl rfl rfl ?c1 ?c2 ?c3 ?_)
 case c1=>rw[hz2];omega
 case c2=>unfold maxLen;omega
 case c3=>exact Nat.le_refl _
 intro w0 hown0 hgrow0;have hb0:Below w.heap.size w w0:=(Below.refl _ _).grown hgrow0 (Nat.le_refl _) (fun k hk=>by cases hk)
 have O0:Hid (w0.ownsRow w.heap.size 3 1 (.slice (some ⟨w.heap.size,0,none⟩) (nc+1) (nc+1)) (nc+1) (Ac (ES cs b 0))):=by
  rw[IA _ (.int .i64 0) (by decide) (fun i hi=>by match i,hi with|0,_=>rfl)] at hown0
  rw[←CZ2.out]
  show World.ownsRow _ _ _ _ _ _ _
  simpa using hown0
 have B0:Hid _:=hb0
 clear hgrow0 hown0 hb0 CZ CZ2;go_wp2;go_loopw [14] (fun ix wr=>∃k:Nat,k<=nb/\ix= .int .i64 k/\Hid (wr.ownsRow w.heap.size 3 1 (.slice (some ⟨w.heap.size,0,none⟩) (nc+1) (nc+1)) (nc+1) (Ac (ES cs b k)))/\Hid (Below w.heap.size w wr))
  (fun ix _=>nb-(intOf ix).toNat)
 case atStart=>exact⟨0,Nat.zero_le _,rfl,O0,B0⟩
 case round=>
  obtain⟨k,hkl,rfl,OW,BW⟩:=hrel
  clear O0 B0;by_cases hlt:k<nb
  ·have hal:=ha (by omega)
   subst hal;obtain⟨d0,d1,d2⟩:=MG.out k wr BW.out hlt
   have KK:=KA.out (mK b k)
   have CS1:=CS.out k hlt
   have hp:=PL.out (mK b k)
   have hca:=CA.out k (AJ cs (mK b k)) (by omega)
   generalize mO b k=x0 at *
   generalize mK b k=x1 at *
   generalize mV b k=x2 at *
   have KK2:Hid _:=KK
   have CS2:Hid _:=CS1
   clear KK CS1;generalize hpk:AJ cs x1=pk at *
   clear hpk;have hk0:(0:Int)<=(k:Int):=by omega
   have hkn:(k:Int)<(nb:Int):=by omega
   have BA:Hid (Below w.heap.size w (wr.alloc (.cells #[.int .i64 x0, .int .i64 x1, .int .i64 x2] 44))):=BW.out.alloc BW.out.size _
   have OA:Hid _:=AD OW.out (al1 wr (.cells #[.int .i64 x0, .int .i64 x1, .int .i64 x2] 44))
   clear OW BW;go_wp2_with fail;refine Calls.mono (KK2.out _ BA.out) ?_
   rintro e w1 ⟨rfl,b1⟩
   have O1:=AD OA.out b1
   have B1:Hid (Below w.heap.size w w1):=Below.and BA.out b1
   have hat:=Rd (ES cs b k) pk (by rw[CL.out];omega)
   have e0:=(O1.cellAt pk (by omega)).trans hat
   have f0:=O1.frozenAt pk
   have st:=(O1.stored pk (.int .i64 (iAt (ES cs b k) pk+1))).1
   rw[UE, ← CS2.out] at st
   have ST:Hid _:=st
   generalize iAt (ES cs b k) pk=c0 at *
   have hp0:(0:Int)<=(pk:Int):=by omega
   have hpn:(pk:Int)<(nc:Int)+1:=by omega
   have hpn2:pk<nc+1:=by omega
   clear O1 hat st b1 d0 d1 d2;go_wp2;go_roundw
   case rel=>exact⟨k+1,by omega,by go_num,ST,B1.out.setCell (Nat.le_refl _) _⟩
   case measure=>simp[intOf];omega
  ·have hkk:k=nb:=by omega
   have hkn:¬((k:Int)<(nb:Int)):=by omega
   have FF:Hid _:=FIN.out _ wr (by have:=Row.of_owns OW.out;rw[hkk] at this;exact this)
   clear hkk;go_wp2_with fail;refine Calls.mono FF.out ?_
   rintro e w1 ⟨r,rfl,hI,rfl⟩
   have HI:Hid _:=hI
   clear hI;go_wp2_with fail;refine Calls.mono HI.out ?_
   rintro e w2 ⟨rfl,rfl⟩
   go_wp2;go_ret;exact⟨rfl,BW.out⟩
end
end Go.Proofs.YtebglpllkjgjbaaGreat
