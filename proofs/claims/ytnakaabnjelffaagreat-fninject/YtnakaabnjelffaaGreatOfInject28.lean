/-
  Leaves, parents and what is given down, as trees side by side; plain mathematics.
  Contracts of slices.Grow and slices.Concat at messages, and of the program's msgsOfKid.
  The library's Grow and Concat, over trees and over numbers: any number of parts.
-/
import Derived.Test.YtnakaabnjelffaaGreatOfInject27
import Derived.Test.YtnakaabnjelffaaGreatOfInject11
import Derived.Lib.Walk
import Derived.Lib.SliceRun
import Derived.Lib.AppendZerosOnto
import Derived.Test.YtnakaabnjelffaaGreatOfInject17
namespace Go.Proofs.YtnakaabnjelffaaGreat
set_option maxRecDepth 100000
set_option maxHeartbeats 8000000
section
variable {d:Nat} {f g h:Int->Int × Bool}

theorem Vj {l:PL} (a:CJ l):Bo l=true:=(EJ _).2 a
theorem Rt.leaf {ps:PL} {lo hi:Int} (a:CJ ps) (b:Ge lo hi ps) (hl:ps.length<=4):Rt 1 (AE ps) lo hi (Dr ps):=by
 refine⟨?_,fun k _ _=>Gb rfl⟩
 rw[Cf rfl,if_pos]
 simp only[Bt,Bool.and_eq_true,decide_eq_true_eq]
 refine⟨Vj a,hl,rfl,DF fun i hi0=> ?_⟩
 have:=b ps[i] (List.getElem_mem hi0)
 refine Ey.2 ?_
 have e:kOf (Dr ps).pairs i=(ps[i]'hi0).1:=by
  show kOf ps i=_
  rw[kOf,List.getD,List.getElem?_eq_getElem (show i<ps.length from hi0)];rfl
 rw[e]
 omega
theorem Rt.fork {lo hi:Int} {cs:List Int} {ts:List Tr} {b:ML} (a:Seg d f lo hi cs ts) (hd:0<d) (h2:2<=ts.length) (h4:ts.length<=4) (hb:b.length<=6) (hm:ES lo hi b) :
  Rt (d+1) (fun k=>Er (f k) (ofK b k)) lo hi ⟨false,[],cs,ts,b⟩:=by
 have hl:=a.len
 have hc:=a.cuts
 have hf:BD ⟨false,[],cs,ts,b⟩ lo hi=true:=by
  simp only[BD,El,Bool.and_eq_true,decide_eq_true_eq]
  refine⟨⟨rfl,⟨h2,h4⟩,hl,hb⟩,DF fun i hi0=> ?_,DF fun i hi0=> ?_⟩
  ·obtain⟨⟨m1,m2⟩,m3,m4⟩:=hm b[i] (List.getElem_mem hi0)
   rw[DV b i hi0] at m1 m2 m3 m4
   simp only[Ex,Bool.and_eq_true]
   refine⟨m1,by simpa using m2,Ey.2 ⟨m3, ?_⟩⟩
   have:mK b i<hi:=m4
   show mK b i<=hi-1
   omega
  ·have:=hc i hi0
   refine Ey.2 ?_
   unfold frC at this;show CM ⟨false,[],cs,ts,b⟩ lo i+1<=iAt cs i/\iAt cs i<=hi-1
   unfold CM;show(if i=0 then lo else iAt cs (i-1))+1<=_/\_
   omega
 have hk:∀i,i<ts.length->Cu d ⟨false,[],cs,ts,b⟩ lo hi i=d:=fun i hi0=>(a.at i hi0).1
 refine⟨?_,fun k h1 h3=> ?_⟩
 ·rw[CD rfl hf,Fi]
  ·rw[hk 0 (by omega)]
  ·rw[hk 0 (by omega)];omega
  ·intro i hi0;rw[hk i hi0,hk 0 (by omega)]
 ·rw[Fg rfl]
  have hp:=G9 cs k
  have hr:=H3 hp hc ⟨h1,h3⟩ rfl
  have:=(a.at (AN cs k) (by omega)).2 k hr.1 hr.2
  show Er (Fe d (ts.getD (AN cs k) Ah) k) (ofK b k)=_
  rw[this]
theorem Rt.fork0 {lo hi:Int} {cs:List Int} {ts:List Tr} (a:Seg d f lo hi cs ts) (hd:0<d) (h2:2<=ts.length) (h4:ts.length<=4):Rt (d+1) f lo hi ⟨false,[],cs,ts,[]⟩:=
 Rt.fork a hd h2 h4 (by simp) (fun m hm=>by simp at hm)
theorem QG {e:Nat->Nat} {n r:Nat} (hr:Ej e n=r+1):∀i,i<n->e i=r:=by
 intro i hi0;unfold Ej at hr;split at hr
 ·rename_i hq
  simp only[Bool.and_eq_true] at hq
  have:=Fb hq.2 hi0
  simp only[beq_iff_eq] at this
  omega
 ·omega
theorem Rt.kids {lo hi:Int} {T:Tr} (a:AG (d+1) T lo hi=d+1) (hl:T.leaf=false):BD T lo hi=true/\Seg d (fun k=>Fe d (Pv T k) k) lo hi T.cuts T.kids:=by
 have hf:=(Bm (m:=d) (T:=T) (lo:=lo) (hi:=hi) (by omega) hl).1
 refine⟨hf, ?_⟩
 obtain⟨q1,q2,q3,q4,q5,q6⟩:=AW hf
 have hc:Hc lo hi T.cuts:=In q6
 rw[CD hl hf] at a
 have hk:=QG a
 refine Seg.of q3 hc fun i hi0=>⟨hk i hi0,fun k h1 h2=> ?_⟩
 have:=hc.pref (i:=i) (by omega) h1 h2
 show _=Fe d (AV T (AN T.cuts k)) k
 rw[this];rfl

theorem PY {l:PL} (a:Asc l) {i j:Nat} (hij:i<j) (hj:j<l.length):kOf l i<kOf l j:=by
 have h1:=List.pairwise_iff_getElem.1 a i j (by simpa[Bn] using(by omega:i<l.length)) (by simpa[Bn] using hj) hij
 have h2:i<l.length:=by omega
 simpa[Bn,kOf,List.getD,hj,h2] using h1
theorem RJ {l:PL} (a:CJ l) (i n:Nat):CJ ((l.drop i).take n):=
 ⟨List.Pairwise.sublist (List.Sublist.map Prod.fst ((List.take_sublist _ _).trans (List.drop_sublist _ _))) a.1,fun p hp=>a.2 p (List.mem_of_mem_drop (List.mem_of_mem_take hp))⟩
theorem Rv {l:PL} {i n:Nat} {k:Int} (h1:∀j,j<i->j<l.length->kOf l j<k) (h2:∀j,i+n<=j->j<l.length->k<kOf l j):AE ((l.drop i).take n) k=AE l k:=by
 have e:l=l.take i++((l.drop i).take n++(l.drop i).drop n):=by rw[List.take_append_drop,List.take_append_drop]
 conv=>rhs;rw[e]
 rw[Gx (fun p hp=> ?_),Ff (fun p hp=> ?_)]
 ·rw[List.drop_drop] at hp
  obtain⟨j,hj,hk⟩:=List.getElem_of_mem hp
  rw[List.getElem_drop] at hk
  rw[List.length_drop] at hj
  have:=h2 (i+n+j) (by omega) (by omega)
  have e2:kOf l (i+n+j)=p.1:=by rw[←hk];simp[kOf,List.getD,show i+n+j<l.length by omega]
  omega
 ·obtain⟨j,hj,hk⟩:=List.getElem_of_mem hp
  rw[List.getElem_take] at hk
  rw[List.length_take] at hj
  have:=h1 j (by omega) (by omega)
  have e2:kOf l j=p.1:=by rw[←hk];simp[kOf,List.getD,show j<l.length by omega]
  omega
theorem QF {l:PL} {i n:Nat} {p:Int × Int} (hp:p∈(l.drop i).take n):∃j,i<=j/\j<i+n/\j<l.length/\p.1=kOf l j:=by
 obtain⟨j,hj,hk⟩:=List.getElem_of_mem hp
 rw[List.getElem_take,List.getElem_drop] at hk
 rw[List.length_take,List.length_drop] at hj
 exact⟨i+j,by omega,by omega,by omega,by rw[←hk];simp[kOf,List.getD,show i+j<l.length by omega]⟩
theorem WB {l:PL} (a:Asc l) {i j:Nat} (hij:i<=j) (hj:j<l.length):kOf l i<=kOf l j:=by
 rcases Nat.lt_or_ge i j with h|h
 ·exact Int.le_of_lt (PY a h hj)
 ·have:i=j:=by omega
  subst this;exact Int.le_refl _

def loF (ps:PL) (lo:Int) (i:Nat):Int:=if i=0 then lo else kOf ps i
theorem Seg.leaves {ps:PL} {lo hi:Int} (a:CJ ps) (b:Ge lo hi ps):∀n i,ps.length-i<=n->i<ps.length->2<=ps.length-i->Seg 1 (AE ps) (loF ps lo i) hi (lfC ps (i+AM (ps.length-i))) (lfT ps i):=by
 intro n;induction n with
 |zero=>intro i h1 h2;omega
 |succ n ih=>
  intro i h1 h2 h3;have hm:=Br (ps.length-i)
  rw[I7,if_pos h2]
  have h3' :ps.length-i=3->AM (ps.length-i)=3:=fun h=>by rw[h];rfl
  have hin:∀j,j<ps.length->lo<=kOf ps j/\kOf ps j<hi:=fun j hj=>by
   have:=b ps[j] (List.getElem_mem hj)
   simpa[kOf,List.getD,hj] using this
  have hlo:∀j,i<=j->j<ps.length->loF ps lo i<=kOf ps j:=fun j hij hj=>by
   unfold loF;split
   ·exact(hin j hj).1
   ·exact WB a.1 hij hj
  have hbe:∀k,loF ps lo i<=k->∀j,j<i->j<ps.length->kOf ps j<k:=fun k hk j hji hj=>by
   unfold loF at hk;rw[if_neg (by omega)] at hk
   have:=PY a.1 hji h2
   omega
  generalize hM:AM (ps.length-i)=M at *
  have hpl:((ps.drop i).take M).length<=4:=by rw[List.length_take];omega
  by_cases he:i+M<ps.length
  ·have h4:2<=ps.length-(i+M):=by omega
   have r:=ih (i+M) (by omega) he h4
   rw[Ii,if_pos he,if_pos (by omega),List.singleton_append]
   have e1:loF ps lo (i+M)=kOf ps (i+M):=by rw[loF,if_neg (by omega)]
   rw[e1] at r
   refine⟨(Rt.leaf (RJ a i M) (fun p hp=> ?_) hpl).congr fun k k1 k2=> ?_, ?_,(hin _ he).2,r⟩
   ·obtain⟨j,j1,j2,j3,j4⟩:=QF hp
    rw[j4]
    exact⟨hlo j j1 j3,PY a.1 j2 he⟩
   ·exact Rv (hbe k k1) fun j j1 j2=>by have:=WB a.1 j1 j2;omega
   ·have:=hlo i (Nat.le_refl _) h2
    have:=PY a.1 (show i<i+M by omega) he
    omega
  ·have e1:lfT ps (i+M)=[]:=by rw[I7,if_neg he]
   have e2:lfC ps (i+M)=[]:=by rw[Ii,if_neg he]
   rw[e1,e2]
   refine(Rt.leaf (RJ a i M) (fun p hp=> ?_) hpl).congr fun k k1 k2=> ?_
   ·obtain⟨j,j1,j2,j3,j4⟩:=QF hp
    rw[j4]
    exact⟨hlo j j1 j3,(hin j j3).2⟩
   ·exact Rv (hbe k k1) fun j j1 j2=>by omega
theorem Seg.leafM {ps:PL} {lo hi:Int} (a:CJ ps) (b:Ge lo hi ps):Seg 1 (AE ps) lo hi (leafM ps).2 (leafM ps).1:=by
 unfold YtnakaabnjelffaaGreat.leafM
 split
 ·exact Rt.leaf a b (by assumption)
 ·have:=Seg.leaves a b ps.length 0 (by omega) (by omega) (by omega)
  have e:lfC ps 0=lfC ps (0+AM (ps.length-0)):=by rw[Ii ps 0,if_pos (by omega),if_neg (by omega),List.nil_append]
  show Seg 1 (AE ps) lo hi (lfC ps 0) (lfT ps 0)
  rw[e]
  exact this

theorem Seg.packs {m:TM} {lo hi:Int} (a:Seg d f lo hi m.2 m.1) (hd:0<d):∀n i,m.1.length-i<=n->i<m.1.length->2<=m.1.length-i->Seg (d+1) f (frC m.2 lo i) hi (pkC m (i+AM (m.1.length-i))) (pkT m i):=by
 intro n;induction n with
 |zero=>intro i h1 h2;omega
 |succ n ih=>
  intro i h1 h2 h3;have hl:=a.len
  have hm:=Br (m.1.length-i)
  rw[Kl,if_pos h2,FJ]
  have h3' :m.1.length-i=3->AM (m.1.length-i)=3:=fun h=>by rw[h];rfl
  generalize hM:AM (m.1.length-i)=M at *
  have s1:=(a.drop h2).take (n:=M-1) (by rw[List.length_drop];omega)
  have e1:toC (m.2.drop i) hi (M-1)=toC m.2 hi (i+(M-1)):=by
   unfold toC;by_cases hc:i+(M-1)<m.2.length
   ·rw[if_pos (by rw[List.length_drop];omega),if_pos hc];simp[iAt,List.getD]
   ·rw[if_neg (by rw[List.length_drop];omega),if_neg hc]
  rw[e1,show M-1+1=M by omega] at s1
  have s2:=Rt.fork0 s1 hd (by rw[List.length_take,List.length_drop];omega) (by rw[List.length_take];omega)
  by_cases he:i+M<m.1.length
  ·have r:=ih (i+M) (by omega) he (by omega)
   rw[Jh,if_pos he,if_pos (by omega),List.singleton_append]
   have e2:frC m.2 lo (i+M)=iAt m.2 (i+M-1):=by rw[frC,if_neg (by omega)]
   have e3:toC m.2 hi (i+(M-1))=iAt m.2 (i+M-1):=by rw[toC,if_pos (by omega),show i+(M-1)=i+M-1 by omega]
   rw[e2] at r
   rw[e3] at s2
   refine⟨s2, ?_,(a.cuts _ (by omega)).2,r⟩
   unfold frC;split
   ·exact a.cuts.lo _ (by omega)
   ·exact a.cuts.asc _ _ (by omega) (by omega)
  ·have e4:pkT m (i+M)=[]:=by rw[Kl,if_neg he]
   have e5:pkC m (i+M)=[]:=by rw[Jh,if_neg he]
   have e6:toC m.2 hi (i+(M-1))=hi:=by rw[toC,if_neg (by omega)]
   rw[e4,e5]
   rw[e6] at s2
   exact s2
theorem Seg.pack {m:TM} {lo hi:Int} (a:Seg d f lo hi m.2 m.1) (hd:0<d) (h2:2<=m.1.length):Seg (d+1) f lo hi (Co m).2 (Co m).1:=by
 have:=a.packs hd m.1.length 0 (by omega) (by omega) (by omega)
 have e:pkC m 0=pkC m (0+AM (m.1.length-0)):=by rw[Jh m 0,if_pos (by omega),if_neg (by omega),List.nil_append]
 show Seg (d+1) f lo hi (pkC m 0) (pkT m 0)
 rw[e]
 exact this

def Tu (d:Nat) (g:Tr->ML->TM):Prop:=∀T ms lo hi,AG d T lo hi=d->ES lo hi ms->Seg d (fun k=>Er (Fe d T k) (ofK ms k)) lo hi (g T ms).2 (g T ms).1
theorem ES.mine {lo hi:Int} {cs:List Int} {b:ML} (a:ES lo hi b) (hc:Hc lo hi cs) {i:Nat} (hi0:i<=cs.length):ES (frC cs lo i) (toC cs hi i) (Ar cs i b):=fun m hm=>by
 obtain⟨h1,h2⟩:=List.mem_filter.1 hm
 obtain⟨h3,h4⟩:=a m h1
 exact⟨h3,H3 hi0 hc h4 (by simpa using h2)⟩
theorem ES.rest {lo hi:Int} {cs:List Int} {b:ML} (a:ES lo hi b) (i:Nat):ES lo hi (AZ cs i b):=fun m hm=>a m (List.mem_filter.1 hm).1
theorem Md {cs:List Int} {k:Int} {i:Nat} (b:ML) (e:AN cs k=i):ofK (Ar cs i b) k=ofK b k/\ofK (AZ cs i b) k=[]:=by
 constructor
 ·unfold ofK Ar;rw[List.filter_filter]
  refine List.filter_congr fun m _=> ?_
  by_cases hm:m.2.1=k<;>simp[hm,e]
 ·refine List.filter_eq_nil_iff.2 fun m hm=> ?_
  have:=(List.mem_filter.1 hm).2
  intro h1;simp at h1
  rw[h1,e] at this
  simp at this
theorem Xf {cs:List Int} {k:Int} {i:Nat} (b:ML) (e:AN cs k≠i):ofK (AZ cs i b) k=ofK b k/\ofK (Ar cs i b) k=[]:=by
 constructor
 ·unfold ofK AZ;rw[List.filter_filter]
  refine List.filter_congr fun m _=> ?_
  by_cases hm:m.2.1=k<;>simp[hm,e]
 ·refine List.filter_eq_nil_iff.2 fun m hm=> ?_
  have:=(List.mem_filter.1 hm).2
  intro h1;simp at h1
  rw[h1] at this
  simp[e] at this
theorem Seg.kid {G:Tr->ML->TM} (hg:Tu d G) {m:TM} {lo hi:Int} {b:ML} (a:Seg d f lo hi m.2 m.1) (hb:ES lo hi b) {i:Nat} (hi0:i<m.1.length):Seg d (fun k=>Er (f k) (ofK b k)) (frC m.2 lo i) (toC m.2 hi i) (G (m.1.getD i Ah) (Ar m.2 i b)).2 (G (m.1.getD i Ah) (Ar m.2 i b)).1:=by
 have hl:=a.len
 have hr:=a.at i hi0
 refine(hg _ _ _ _ hr.1 (hb.mine a.cuts (by omega))).congr fun k h1 h2=> ?_
 rw[hr.2 k h1 h2,(Md b (a.cuts.pref (by omega) h1 h2)).1]
theorem Seg.down {G:Tr->ML->TM} (hg:Tu d G) {m:TM} {lo hi:Int} {b:ML} (a:Seg d f lo hi m.2 m.1) (hb:ES lo hi b):Seg d (fun k=>Er (f k) (ofK b k)) lo hi (Ba G m b).2 (Ba G m b).1:=by
 rw[LD]
 have hl:=a.len
 refine Seg.both _ hl a.cuts fun i hi0=> ?_
 unfold Cv;split
 ·exact a.kid hg hb hi0
 ·rename_i hz
  have hz' :Ar m.2 i b=[]:=List.length_eq_zero_iff.1 (by omega)
  refine(a.at i hi0).congr fun k h1 h2=> ?_
  rw[←(Md b (a.cuts.pref (by omega) h1 h2)).1,hz'];rfl
theorem Seg.loop {G:Tr->ML->TM} (hg:Tu d G) {lo hi:Int}:∀n (m:TM) (b:ML) (f:Int->Int × Bool),Seg d f lo hi m.2 m.1->ES lo hi b→
  ∃f',Seg d f' lo hi (Bs G n m b).1.2 (Bs G n m b).1.1/\ES lo hi (Bs G n m b).2/\∀k,lo<=k->k<hi->Er (f' k) (ofK (Bs G n m b).2 k)=Er (f k) (ofK b k)
 |0,m,b,f,a,hb=>⟨f,a,hb,fun _ _ _=>rfl⟩
 |n+1,m,b,f,a,hb=>by
  rw[Bs]
  split
  ·have hl:=a.len
   have hat:=(Dl m.2 b m.1.length (by omega)).1
   generalize (Ak m.2 b m.1.length).1=i at *
   let hh:Int->Int × Bool:=fun k=>if AN m.2 k=i then Er (f k) (ofK b k) else f k
   have p1:Seg d hh (frC m.2 lo i) (toC m.2 hi i) (G (m.1.getD i Ah) (Ar m.2 i b)).2 (G (m.1.getD i Ah) (Ar m.2 i b)).1:=
    (a.kid hg hb hat).congr fun k h1 h2=>by
     show _=if _ then _ else _
     rw[if_pos (a.cuts.pref (by omega) h1 h2)]
   have p2:Seg d hh lo hi (Bb m i (G (m.1.getD i Ah) (Ar m.2 i b))).2 (Bb m i (G (m.1.getD i Ah) (Ar m.2 i b))).1:=
    a.put hat p1 fun k _ _ h3=>by
     show _=if _ then _ else _
     rw[if_neg h3]
   obtain⟨f',q1,q2,q3⟩:=Seg.loop hg n _ (AZ m.2 i b) hh p2 (hb.rest i)
   refine⟨f',q1,q2,fun k h1 h2=>(q3 k h1 h2).trans ?_⟩
   show Er (if AN m.2 k=i then Er (f k) (ofK b k) else f k) _=_
   by_cases e:AN m.2 k=i
   ·rw[if_pos e,(Md b e).2];rfl
   ·rw[if_neg e,(Xf b e).1]
  ·exact⟨f,a,hb,fun _ _ _=>rfl⟩
theorem ES.shrink {lo hi:Int} {b:ML} (a:∀m∈b,lo<=m.2.1/\m.2.1<hi):ES lo hi (AC b):=fun m hm=>by
 obtain⟨x,hx,he⟩:=RH hm
 exact⟨Na b m hm,by rw[←he];exact a x hx⟩
theorem Im:∀d,Tu (d+1) (Ae (d+1)):=by
 intro d;induction d with
 |zero=>
  intro T ms lo hi hT hms
  cases hl:T.leaf
  ·have hk:=(Bm (m:=0) (T:=T) (lo:=lo) (hi:=hi) (by omega) hl)
   have:=hk.2 0 (by have:=(AW hk.1).2.1.1;omega)
   exact absurd rfl this
  ·obtain⟨q1,q2,q3,q4,q5,q6⟩:=Dz (Ce (m:=0) (T:=T) (lo:=lo) (hi:=hi) (by omega) hl)
   rw[Ae,if_pos hl]
   refine(Seg.leafM (Kn q1 ms) (Kz q6 fun m hm=>(hms m hm).2)).congr fun k _ _=> ?_
   rw[Kq q1,Gb hl]
 |succ d ih=>
  intro T ms lo hi hT hms
  cases hl:T.leaf
  ·obtain⟨hf,hs⟩:=Rt.kids hT hl
   obtain⟨q1,q2,q3,q4,q5,q6⟩:=AW hf
   have hb:=DU q5
   rw[Ae,if_neg (by rw[hl];simp)]
   have hB:ES lo hi (AC (T.buf++ms)):=ES.shrink fun m hm=>(List.mem_append.1 hm).elim (fun h1=>(hb m h1).2) (fun h1=>(hms m h1).2)
   obtain⟨f',r1,r2,r3⟩:=Seg.loop ih (AC (T.buf++ms)).length (T.kids,T.cuts) (AC (T.buf++ms)) _ hs hB
   have hsh:=(Mw (Bh (d+1)) (AC (T.buf++ms)).length (T.kids,T.cuts) (AC (T.buf++ms)) ⟨q3,fun t ht=>by
    obtain⟨i,hi0,rfl⟩:=List.getElem_of_mem ht
    have e:=(hs.at i hi0).1
    have e2:T.kids.getD i Ah=T.kids[i]:=by simp[List.getD,hi0]
    rw[e2] at e
    have:=Du (m:=d+1) (T:=T.kids[i]) (lo:=frC T.cuts lo i) (up:=toC T.cuts hi i) (by omega)
    rw[e] at this
    exact this⟩ (Nat.le_refl _))
   have hval:∀k,lo<=k->k<hi->Er (f' k) (ofK (Bs (Ae (d+1)) (AC (T.buf++ms)).length (T.kids,T.cuts) (AC (T.buf++ms))).2 k)=Er (Fe (d+1+1) T k) (ofK ms k):=fun k h1 h2=>by
    rw[r3 k h1 h2,R6,MW,H5,Fg hl]
   generalize Bs (Ae (d+1)) (AC (T.buf++ms)).length (T.kids,T.cuts) (AC (T.buf++ms))=r at *
   unfold IE;split
   ·have hd:=Seg.down ih r1 r2
    exact((hd.pack (by omega) (by have:=(Eu (Bh (d+1)) hsh.1 r.2).2.2;omega))).congr hval
   ·exact(Rt.fork r1 (by omega) (by have:=hsh.2.2.1;simp only at this;omega) (by omega) hsh.2.2.2 r2).congr hval
  ·have:=Cf (m:=d+1) (T:=T) (lo:=lo) (hi:=hi) hl
   rw[hT] at this
   split at this<;>omega
end
section
open Go.RowKit

theorem Yg {W:World} {R:Nat} {a b c:Value} (hR:W.heap[R]? =some (.cells #[a,b,c] 31 (0,0))):W.cell? ⟨R,0,none⟩=some a/\W.cell? ⟨R,1,none⟩=some b/\W.cell? ⟨R,2,none⟩=some c:=by
 have h:=fun j=>cell_of_row W R j _ 31 (0,0) hR
 exact⟨by rw[h];rfl,by rw[h];rfl,by rw[h];rfl⟩

open Go.Lib in
theorem WE (n:Nat) (w:World) (hn:n<=8388608) :
  Calls Tryz.prog 105 #[.slice none 0 0, .int .i64 n] w fun e w' =>∃v',e= .returned v' ∧w'.ownsRow w.heap.size 31 3 v' 0 []/\Below w.heap.size w w' :=by
 obtain⟨i0,hi0,hz0,hz1,hz2⟩:=info_parts Tryz.info31
 rcases Nat.eq_zero_or_pos n with rfl|hp
 ·go_enter Tryz.func105,Tryz.ntmps105
  go_wp2;go_ret;exact⟨_,rfl,World.ownsRow_nil _ _ _ _,Below.refl _ _⟩
 ·have hrz:∀ty,(Builtin.append_ #[27,3] ty #[.slice none 0 0, .int .i64 (n:Int)]).run Tryz.prog w =
    .ok (.slice (some ⟨w.heap.size,0,none⟩) n (grownCap w n 0 31)) (w.drew.alloc (.cells (#[]++Builtin.zeroCells (Value.agg #[.int .i64 0, .int .i64 0, .int .i64 0]).cells n++Builtin.zeroCells (Value.agg #[.int .i64 0, .int .i64 0, .int .i64 0]).cells (grownCap w n 0 31-n)) 31)):=fun ty=>by
   have h:=Lib.run_append_grow_zeros w 27 3 ty 31 i0 _ .i64 .i64 Tryz.underlying27 Tryz.underlying3 hi0 hz0 none 0 0 [] (run_firstCells_none w.drew i0.size 0 0 0) n hp (by rw[hz1];decide) (by omega) (by omega)
    (by rw[hz2];omega)
    (by rw[Nat.zero_add,hz2];exact growslice_fits hp (by omega))
   rw[Nat.zero_add] at h
   exact h
  have HRZ:Hid _:=hrz
  have hGn:n<=grownCap w n 0 31:=grownCap_ge w _ _ _
  have hG63:=grownCap_le_maxLen w n 0 31 (by unfold maxLen;omega)
  generalize grownCap w n 0 31=G at *
  have hb1:(0:Int)<(n:Int):=by omega
  have hb2:¬((n:Int)<0):=by omega
  have hgm:G<=9223372036854775807:=by
   have:=hG63
   unfold maxLen at this;omega
  have OW:Hid ((w.alloc (.cells (Builtin.zeroCells #[.int .i64 0, .int .i64 0, .int .i64 0] n++Builtin.zeroCells #[.int .i64 0, .int .i64 0, .int .i64 0] (G-n)) 31)).drew.ownsRow w.heap.size 31 3 (.slice (some ⟨w.heap.size,0,none⟩) 0 G) 0 []):=
   ⟨by simp, .inr ⟨w.heap.size,G,_,rfl,Nat.le_refl _,heap_alloc_new w _,Nat.zero_le _,hG63,by
    simp only[Array.size_append,size_zeroCells]
    show n*3+(G-n)*3=G*3
    omega,by simp⟩⟩
  clear hrz hG63;go_enter Tryz.func105,Tryz.ntmps105
  go_wp2_with (at_builtin;refine Lib.wpList_append_run _ rfl _ _ _ _ rfl _ _ rfl rfl _ _ (HRZ.out _) ?_)
  all_goals
   go_ret;exact⟨_,rfl,OW.out,((Below.refl _ _).alloc (Nat.le_refl _) _).drew⟩

theorem Nk (b:Nat) (v1 v2:Value) (l1 l2:ML) (w:World) (hb:w.heap[b]? =some (.cells #[v1,v2] 27 (0,0))) (h1:Row w v1 l1.length (Al l1)) (h2:Row w v2 l2.length (Al l2)) (hn:l1.length+l2.length<=2097152) :
  Calls Tryz.prog 74 #[.slice (some ⟨b,0,none⟩) 2 2] w fun e w' =>∃v',e= .returned v' ∧w'.ownsRow w.heap.size 31 3 v' (l1++l2).length (Al (l1++l2))/\Below w.heap.size w w' :=by
 obtain⟨i0,hi0,hz0,hz1,hz2⟩:=info_parts Tryz.info31
 obtain⟨a1,q1,rfl,_⟩:=h1.len
 obtain⟨a2,q2,rfl,_⟩:=h2.len
 have c0:w.cell? ⟨b,0,none⟩=some (.slice a1 l1.length q1):=by rw[cell_of_row w b 0 _ 27 (0,0) hb];rfl
 have c1:w.cell? ⟨b,1,none⟩=some (.slice a2 l2.length q2):=by rw[cell_of_row w b 1 _ 27 (0,0) hb];rfl
 have R1:Hid (Row w (.slice a1 l1.length q1) l1.length (Al l1)):=h1
 have R2:Hid (Row w (.slice a2 l2.length q2) l2.length (Al l2)):=h2
 have C0:Hid _:=c0
 have C1:Hid _:=c1
 clear h1 h2 hb;go_enter Tryz.func74,Tryz.ntmps74
 go_wp2;go_loopw [3,11] (fun sz i wr=>w=wr/\((i= .int .i64 0/\sz= .int .i64 0)∨(i= .int .i64 1/\sz= .int .i64 l1.length)∨(i= .int .i64 2/\sz= .int .i64 (l1.length+l2.length)))) (fun _ i _=>2-(intOf i).toNat)
 case atStart=>exact⟨rfl, .inl ⟨rfl,rfl⟩⟩
 case round=>
  obtain⟨rfl,hh⟩:=hrel
  rcases hh with⟨rfl,rfl⟩|⟨rfl,rfl⟩|⟨rfl,rfl⟩
  ·have hp:¬((l1.length:Int)<0):=by omega
   go_wp2;go_roundw
   case rel=>exact⟨trivial, .inr (.inl ⟨by go_num,by go_num⟩)⟩
   case measure=>simp[intOf]
  ·have hp:¬((l1.length:Int)+(l2.length:Int)<0):=by omega
   go_wp2;go_roundw
   case rel=>exact⟨trivial, .inr (.inr ⟨by go_num,by go_num⟩)⟩
   case measure=>simp[intOf]
  ·have hcast:((l1.length:Int)+(l2.length:Int))=((l1.length+l2.length:Nat):Int):=by omega
   have GA:Hid (Calls Tryz.prog 105 #[.slice none 0 0, .int .i64 ((l1.length:Int)+(l2.length:Int))] w fun e w' =>∃v',e= .returned v' ∧w'.ownsRow w.heap.size 31 3 v' 0 []/\Below w.heap.size w w'):=by
    rw[hcast]
    exact WE (l1.length+l2.length) w (by omega)
   clear hcast;go_wp2_with fail;refine Calls.mono GA.out ?_
   rintro e w2 ⟨v2,rfl,o2,hb2⟩
   have O2:Hid (w2.ownsRow w.heap.size 31 3 v2 ([]:ML).length (Al [])):=o2
   have B2:Hid (Below w.heap.size w w2):=hb2
   clear o2 hb2 c0 c1;go_wp2;go_loopw [6,27] (fun out i wr=>Hid (Below w.heap.size w wr)/\((i= .int .i64 0/\Hid (wr.ownsRow w.heap.size 31 3 out ([]:ML).length (Al [])))∨(i= .int .i64 1/\Hid (wr.ownsRow w.heap.size 31 3 out l1.length (Al l1)))∨(i= .int .i64 2/\Hid (wr.ownsRow w.heap.size 31 3 out (l1++l2).length (Al (l1++l2)))))) (fun _ i _=>2-(intOf i).toNat)
   case atStart=>exact⟨B2, .inl ⟨rfl,O2⟩⟩
   case round=>
    obtain⟨BQ,hh⟩:=hrel
    clear O2 B2;rcases hh with⟨rfl,OQ⟩|⟨rfl,OQ⟩|⟨rfl,OQ⟩
    ·have d0:=Ac BQ.out (Aa C0.out) C0.out
     have RR:Hid _:=R1.out.below BQ.out
     have OW:=OQ.out
     have HR:Hid (0+l1.length<=maxLen/\(0+l1.length)*24<=140737488355328):=⟨by unfold maxLen;omega,by omega⟩
     have H1:Hid _:=Fj l1
     have HL:Hid _:=Dx l1
     have hbs:w.heap.size<=wr.heap.size:=BQ.out.size
     go_wp2_with (at_builtin;refine F7 wr rfl _ _ 27 rfl w.heap.size 31 i0 _ 3 24 Tryz.underlying27 hi0 hz0 hz1 hz2 rfl (by decide) u6 0 [] rfl OW (.slice a1 l1.length q1) l1.length (Al l1) rfl RR.out HL.out H1.out HR.out.1 HR.out.2 hbs ?_)
     intro v5 w5 o5 _ b5;have FIN:Hid (w5.ownsRow w.heap.size 31 3 v5 l1.length (Al l1)/\Below w.heap.size w w5):=⟨o5,BQ.out.trans b5⟩
     clear o5 b5 OW d0;go_wp2;go_roundw
     case rel=>exact⟨FIN.out.2, .inr (.inl ⟨by go_num,FIN.out.1⟩)⟩
     case measure=>simp[intOf]
    ·have d0:=Ac BQ.out (Aa C1.out) C1.out
     have RR:Hid _:=R2.out.below BQ.out
     have OW:=OQ.out
     have HR:Hid (l1.length+l2.length<=maxLen/\(l1.length+l2.length)*24<=140737488355328):=⟨by unfold maxLen;omega,by omega⟩
     have H1:Hid _:=Fj l2
     have HL:Hid _:=Dx l2
     have hbs:w.heap.size<=wr.heap.size:=BQ.out.size
     go_wp2_with (at_builtin;refine F7 wr rfl _ _ 27 rfl w.heap.size 31 i0 _ 3 24 Tryz.underlying27 hi0 hz0 hz1 hz2 rfl (by decide) u6 _ _ rfl OW (.slice a2 l2.length q2) l2.length (Al l2) rfl RR.out HL.out H1.out HR.out.1 HR.out.2 hbs ?_)
     intro v5 w5 o5 _ b5;have FIN:Hid (w5.ownsRow w.heap.size 31 3 v5 (l1++l2).length (Al (l1++l2))/\Below w.heap.size w w5):=⟨by rw[Cc,List.length_append];exact o5,BQ.out.trans b5⟩
     clear o5 b5 OW d0;go_wp2;go_roundw
     case rel=>exact⟨FIN.out.2, .inr (.inr ⟨by go_num,FIN.out.1⟩)⟩
     case measure=>simp[intOf]
    ·go_wp2;go_ret;exact⟨_,rfl,OQ.out,BQ.out⟩

theorem SQ (cs:List Int) (i:Nat) (ms:ML) (j:Nat) (h:j<ms.length):mineK cs i (ms.take (j+1))=if EW cs (mK ms j) cs.length=i then mineK cs i (ms.take j)++[(mO ms j,mK ms j,mV ms j)] else mineK cs i (ms.take j):=by
 rw[DZ ms j h,mineK,List.filter_append]
 by_cases hk:EW cs (mK ms j) cs.length=i
 ·simp[hk,mineK]
 ·simp[hk,mineK]
theorem JG (cs:List Int) (i:Nat) (ms:ML):(mineK cs i ms).length<=ms.length:=List.length_filter_le _ _

theorem GJ (vc:Value) (cs:List Int) (i:Nat) (vm:Value) (ms:ML) (w:World) (hc:Row w vc cs.length (Ab cs)) (hm:Row w vm ms.length (Al ms)) (hn:ms.length<=2097152) :
  Calls Tryz.prog 75 #[vc, .int .i64 i,vm] w fun e w' =>∃v',e= .returned v' ∧w'.ownsRow w.heap.size 31 3 v' (mineK cs i ms).length (Al (mineK cs i ms))/\Below w.heap.size w w' :=by
 obtain⟨i0,hi0,hz0,hz1,hz2⟩:=info_parts Tryz.info31
 obtain⟨a,b,off,cap,rfl,hcap,hmax,ha,ho,hk,hv⟩:=hm.msgs
 unfold maxLen at hmax;have RC:Hid (Row w vc cs.length (Ab cs)):=hc
 have MS:Hid (∀j,j<ms.length->mineK cs i (ms.take (j+1))=if EW cs (mK ms j) cs.length=i then mineK cs i (ms.take j)++[(mO ms j,mK ms j,mV ms j)] else mineK cs i (ms.take j)):=fun j hj=>SQ cs i ms j hj
 have MF:Hid (mineK cs i (ms.take ms.length)=mineK cs i ms):=by
  show _=_
  rw[List.take_of_length_le (Nat.le_refl _)]
 have ML1:Hid (∀j,(mineK cs i (ms.take j)).length<=2097152):=fun j=>Nat.le_trans (JG _ _ _) (Nat.le_trans (List.length_take_le' _ _) hn)
 have KA:Hid (∀(k:Int) (w1:World),Below w.heap.size w w1->Calls Tryz.prog 106 #[vc, .int .i64 k] w1 fun e w' =>e= .returned (.int .i64 (EW cs k cs.length:Nat))/\Below w1.heap.size w1 w'):=fun k w1 hb=>Kt vc cs k w1 (RC.out.below hb)
 rw[←MF.out]
 generalize hfo:(fun j=>mineK cs i (ms.take j))=fo
 have hfo' :∀j,mineK cs i (ms.take j)=fo j:=fun j=>by rw[←hfo]
 have M0:Hid (fo 0=[]):=by
  show _=_
  rw[←hfo];rfl
 simp only[hfo'] at MS MF ML1 ⊢
 clear hfo hfo' hc hm MF;go_enter Tryz.func75,Tryz.ntmps75
 go_wp2;go_loopw [7,12] (fun out ii wr=>∃j:Nat,j<=ms.length/\ii= .int .i64 j/\Hid (wr.ownsRow w.heap.size 31 3 out (fo j).length (Al (fo j)))/\Hid (Below w.heap.size w wr))
  (fun _ ii _=>ms.length-(intOf ii).toNat)
 case atStart=>exact⟨0,Nat.zero_le _,rfl,by rw[M0.out];exact World.ownsRow_nil _ _ _ _,Below.refl _ _⟩
 case round=>
  obtain⟨j,hj,rfl,ON,BN⟩:=hrel
  by_cases hlt:j<ms.length
  ·have hal:=ha (by omega)
   subst hal;have d0:=Ac BN.out (Aa (ho j hlt)) (ho j hlt)
   have d1:=Ac BN.out (Aa (hk j hlt)) (hk j hlt)
   have d2:=Ac BN.out (Aa (hv j hlt)) (hv j hlt)
   have MS1:Hid _:=MS.out j hlt
   have hml:=ML1.out j
   have BA:Hid (Below w.heap.size w (wr.alloc (.cells #[.int .i64 (mO ms j), .int .i64 (mK ms j), .int .i64 (mV ms j)] 31))):=BN.out.alloc BN.out.size _
   have OA:Hid _:=ON.out.alloc (.cells #[.int .i64 (mO ms j), .int .i64 (mK ms j), .int .i64 (mV ms j)] 31)
   have MA:Hid _:=heap_alloc_new wr (.cells #[.int .i64 (mO ms j), .int .i64 (mK ms j), .int .i64 (mV ms j)] 31)
   have KC:Hid _:=KA.out (mK ms j) _ BA.out
   generalize mO ms j=x0 at *
   generalize mK ms j=x1 at *
   generalize mV ms j=x2 at *
   clear ho hk hv ha ON BN;generalize hcn:EW cs x1 cs.length=CN at *
   go_wp2_with fail;refine Calls.mono KC.out ?_
   rintro e w1 ⟨rfl,b1⟩
   have B1:Hid (Below w.heap.size w w1):=Below.and BA.out b1
   have O1:Hid (w1.ownsRow w.heap.size 31 3 u7 (fo j).length (Al (fo j))):=AJ OA.out b1
   have M1:Hid (w1.heap[wr.heap.size]? =some (.cells #[.int .i64 x0, .int .i64 x1, .int .i64 x2] 31 (0,0))):=by
    show _=_
    rw[b1.block _ (by simp)];exact MA.out
   obtain⟨m0,m1,m2⟩:=Yg M1.out
   clear d0 d1 d2 b1 BA OA MA;by_cases hq:CN=i
   ·subst hq;have DS:Hid (fo (j+1)=fo j++[(x0,x1,x2)]):=MS1.out.trans (if_pos rfl)
    have HR:Hid _:=Bl (n:=(fo j).length) (bytes:=24) (by omega) (by decide)
    have H1:Hid _:=Kr x0 x1 x2
    have hbs:w.heap.size<=w1.heap.size:=B1.out.size
    have OW:=O1.out
    clear MS1;go_wp2_with (at_builtin;refine BI w1 rfl _ _ 27 rfl w.heap.size 31 i0 _ 3 24 Tryz.underlying27 hi0 hz0 hz1 hz2 rfl (by decide) u7 _ _ rfl OW [.int .i64 x0, .int .i64 x1, .int .i64 x2] rfl rfl H1.out HR.out.1 HR.out.2 hbs ?_)
    intro v5 w5 o5 _ b5;have FIN:Hid _:=And.intro o5 (B1.out.trans b5)
    clear o5 b5 OW m0 m1 m2;go_wp2;go_roundw
    case rel=>exact⟨j+1,by omega,by go_num,by rw[DS.out,Cc,List.length_append];exact FIN.out.1,FIN.out.2⟩
    case measure=>simp[intOf];omega
   ·have DS:Hid (fo (j+1)=fo j):=MS1.out.trans (if_neg hq)
    have e4:((CN:Int)==(i:Int))=false:=by rw[beq_eq_false_iff_ne];omega
    clear MS1;go_wp2;go_roundw
    case rel=>exact⟨j+1,by omega,by go_num,by rw[DS.out];exact O1,B1⟩
    case measure=>simp[intOf];omega
  ·have hjj:j=ms.length:=by omega
   have ON' :Hid (wr.ownsRow w.heap.size 31 3 u7 (fo ms.length).length (Al (fo ms.length))):=by rw[←hjj];exact ON
   clear ho hk hv ha;go_wp2;go_ret;exact⟨_,rfl,ON'.out,BN.out⟩
end
section
open Go.RowKit

abbrev Pt:=Value × Nat × List Value
def Ed (P:List Pt) (i:Nat):Pt:=P.getD i (.slice none 0 0,0,[])
def ptN (P:List Pt) (j:Nat):Nat:=((P.take j).map fun p=>p.2.1).sum
def ptC (P:List Pt) (j:Nat):List Value:=((P.take j).map fun p=>p.2.2).flatten
theorem KY (P:List Pt) (j:Nat) (h:j<P.length):P.take (j+1)=P.take j++[Ed P j]:=by
 rw[List.take_succ_eq_append_getElem h];simp[Ed,List.getD,h]
theorem LY (P:List Pt) (j:Nat) (h:j<P.length):ptN P (j+1)=ptN P j+(Ed P j).2.1:=by
 unfold ptN;rw[KY P j h,List.map_append,List.sum_append];simp
theorem Rk (P:List Pt) (j:Nat) (h:j<P.length):ptC P (j+1)=ptC P j++(Ed P j).2.2:=by
 unfold ptC;rw[KY P j h,List.map_append,List.flatten_append];simp
theorem Qp (P:List Pt):∀j k,j<=k->ptN P j<=ptN P k:=by
 intro j k h;induction k with
 |zero=>rw[show j=0 by omega];exact Nat.le_refl _
 |succ k ih=>
  by_cases e:j=k+1
  ·subst e;exact Nat.le_refl _
  ·have:=ih (by omega)
   by_cases hk:k<P.length
   ·rw[LY P k hk];omega
   ·rw[ptN,ptN,List.take_of_length_le (by omega:P.length<=k+1)]
    rw[ptN,ptN,List.take_of_length_le (by omega:P.length<=k)] at this
    exact this
def YV (w:World) (size:Nat) (P:List Pt):Prop:=∀i,i<P.length->Row w (Ed P i).1 (Ed P i).2.1 (Ed P i).2.2/\(Ed P i).2.2.length=(Ed P i).2.1*size/\∀y∈(Ed P i).2.2,y.oneCell' =true

open Go.Lib in
theorem VI (n:Nat) (w:World) (hn:n<=8388608) :
  Calls Tryz.prog 132 #[.slice none 0 0, .int .i64 n] w fun e w' =>∃v',e= .returned v' ∧w'.ownsRow w.heap.size 29 5 v' 0 []/\Below w.heap.size w w' :=by
 obtain⟨i0,hi0,hz0,hz1,hz2⟩:=info_parts Tryz.info29
 rcases Nat.eq_zero_or_pos n with rfl|hp
 ·go_enter Tryz.func132,Tryz.ntmps132
  go_wp2;go_ret;exact⟨_,rfl,World.ownsRow_nil _ _ _ _,Below.refl _ _⟩
 ·have hrz:∀ty,(Builtin.append_ #[26,3] ty #[.slice none 0 0, .int .i64 (n:Int)]).run Tryz.prog w =
    .ok (.slice (some ⟨w.heap.size,0,none⟩) n (grownCap w n 0 29)) (w.drew.alloc (.cells (#[]++Builtin.zeroCells (Value.agg #[.bool false, .slice none 0 0, .slice none 0 0, .slice none 0 0, .slice none 0 0]).cells n++Builtin.zeroCells (Value.agg #[.bool false, .slice none 0 0, .slice none 0 0, .slice none 0 0, .slice none 0 0]).cells (grownCap w n 0 29-n)) 29)):=fun ty=>by
   have h:=Lib.run_append_grow_zeros w 26 3 ty 29 i0 _ .i64 .i64 Tryz.underlying26 Tryz.underlying3 hi0 hz0 none 0 0 [] (run_firstCells_none w.drew i0.size 0 0 0) n hp (by rw[hz1];decide) (by omega) (by omega)
    (by rw[hz2];omega)
    (by rw[Nat.zero_add,hz2];exact growslice_fits hp (by omega))
   rw[Nat.zero_add] at h
   exact h
  have HRZ:Hid _:=hrz
  have hGn:n<=grownCap w n 0 29:=grownCap_ge w _ _ _
  have hG63:=grownCap_le_maxLen w n 0 29 (by unfold maxLen;omega)
  generalize grownCap w n 0 29=G at *
  have hb1:(0:Int)<(n:Int):=by omega
  have hb2:¬((n:Int)<0):=by omega
  have hgm:G<=9223372036854775807:=by
   have:=hG63
   unfold maxLen at this;omega
  have OW:Hid ((w.alloc (.cells (Builtin.zeroCells #[.bool false, .slice none 0 0, .slice none 0 0, .slice none 0 0, .slice none 0 0] n++Builtin.zeroCells #[.bool false, .slice none 0 0, .slice none 0 0, .slice none 0 0, .slice none 0 0] (G-n)) 29)).drew.ownsRow w.heap.size 29 5 (.slice (some ⟨w.heap.size,0,none⟩) 0 G) 0 []):=
   ⟨by simp, .inr ⟨w.heap.size,G,_,rfl,Nat.le_refl _,heap_alloc_new w _,Nat.zero_le _,hG63,by
    simp only[Array.size_append,size_zeroCells]
    show n*5+(G-n)*5=G*5
    omega,by simp⟩⟩
  clear hrz hG63;go_enter Tryz.func132,Tryz.ntmps132
  go_wp2_with (at_builtin;refine Lib.wpList_append_run _ rfl _ _ _ _ rfl _ _ rfl rfl _ _ (HRZ.out _) ?_)
  all_goals
   go_ret;exact⟨_,rfl,OW.out,((Below.refl _ _).alloc (Nat.le_refl _) _).drew⟩

theorem Qv (b off q:Nat) (P:List Pt) (w:World) (hq:P.length<=q) (hqm:q<=maxLen) (hp0:0<P.length) (hc:∀i,i<P.length->w.cell? ⟨b,off+i,none⟩=some (Ed P i).1) (hP:YV w 5 P) (hn:ptN P P.length<=2097152) :
  Calls Tryz.prog 125 #[.slice (some ⟨b,off,none⟩) P.length q] w fun e w' =>∃v',e= .returned v' ∧w'.ownsRow w.heap.size 29 5 v' (ptN P P.length) (ptC P P.length)/\Below w.heap.size w w' :=by
 obtain⟨i0,hi0,hz0,hz1,hz2⟩:=info_parts Tryz.info29
 have HC:Hid _:=hc
 have HP:Hid (∀i,i<P.length->Row w (Ed P i).1 (Ed P i).2.1 (Ed P i).2.2/\(Ed P i).2.2.length=(Ed P i).2.1*5/\∀y∈(Ed P i).2.2,y.oneCell' =true):=hP
 have NS:Hid (∀j,j<P.length->ptN P (j+1)=ptN P j+(Ed P j).2.1):=fun j=>LY P j
 have CS:Hid (∀j,j<P.length->ptC P (j+1)=ptC P j++(Ed P j).2.2):=fun j=>Rk P j
 have NL:Hid (∀j,j<=P.length->ptN P j<=2097152):=fun j hj=>Nat.le_trans (Qp P j _ hj) hn
 have N0:Hid (ptN P 0=0):=rfl
 have C0:Hid (ptC P 0=[]):=rfl
 unfold maxLen at hqm;clear hc hP;generalize hk:P.length=k at *
 clear hk;go_enter Tryz.func125,Tryz.ntmps125
 go_wp2;go_loopw [3,11] (fun sz i wr=>w=wr/\∃(j s:Nat),i= .int .i64 j/\sz= .int .i64 s/\j<=k/\s<=2097152/\Hid (s=ptN P j)) (fun _ i _=>k-(intOf i).toNat)
 case atStart=>exact⟨rfl,0,0,rfl,rfl,Nat.zero_le _,Nat.zero_le _,N0.out.symm⟩
 case round=>
  obtain⟨rfl,j,s,rfl,rfl,hjk,hs,HS⟩:=hrel
  by_cases hlt:j<k
  ·obtain⟨hr, -⟩:=HP.out j (by omega)
   obtain⟨aj,qj,ej,_⟩:=hr.len
   have cj:=HC.out j hlt
   rw[ej] at cj
   have e1:=NS.out j hlt
   have e2:=NL.out (j+1) (by omega)
   have e3:=HS.out
   generalize (Ed P j).2.1=m at *
   have hm:s+m<=2097152:=by omega
   have HS2:Hid (s+m=ptN P (j+1)):=by show _=_;omega
   have hp:¬((s:Int)+(m:Int)<0):=by omega
   clear e1 e2 e3 hr ej;go_wp2;go_roundw
   case rel=>exact⟨trivial,j+1,s+m,by go_num,by go_num,by omega,hm,HS2⟩
   case measure=>simp[intOf];omega
  ·have hjk' :j=k:=by omega
   have HS2:Hid (s=ptN P k):=by show _=_;rw[←hjk'];exact HS.out
   have GA:Hid (Calls Tryz.prog 132 #[.slice none 0 0, .int .i64 s] w fun e w' =>∃v',e= .returned v' ∧w'.ownsRow w.heap.size 29 5 v' 0 []/\Below w.heap.size w w'):=VI s w (by omega)
   clear hjk' HS;go_wp2_with fail;refine Calls.mono GA.out ?_
   rintro e w2 ⟨v2,rfl,o2,hb2⟩
   obtain⟨a2,c2,hv2,_⟩:=(Row.of_owns o2).len
   subst hv2;have O2:Hid (w2.ownsRow w.heap.size 29 5 (.slice a2 0 c2) 0 []):=o2
   have B2:Hid (Below w.heap.size w w2):=hb2
   clear o2 hb2;go_wp2;go_loopw [6,27] (fun out i wr=>Hid (Below w.heap.size w wr)/\∃(j' m' c' :Nat) (a' :Option Addr),i= .int .i64 j' ∧j' <=k/\m' <=2097152/\out= .slice a' m' c' ∧Hid (m' =ptN P j')/\Hid (wr.ownsRow w.heap.size 29 5 (.slice a' m' c') m' (ptC P j'))) (fun _ i _=>k-(intOf i).toNat)
   case atStart=>exact⟨B2,0,0,c2,a2,rfl,Nat.zero_le _,Nat.zero_le _,rfl,N0.out.symm,by show World.ownsRow _ _ _ _ _ _ _;rw[C0.out];exact O2.out⟩
   case round=>
    obtain⟨BQ,j',m',c',a',rfl,hjk2,hm',rfl,HM,OQ⟩:=hrel
    clear O2 B2;by_cases hlt2:j' < k
    ·obtain⟨hr,hl,h1⟩:=HP.out j' (by omega)
     obtain⟨aj,qj,ej,_⟩:=hr.len
     have cj:=HC.out j' hlt2
     have e1:=NS.out j' hlt2
     have e2:=NL.out (j' +1) (by omega)
     have e3:=HM.out
     have e4:=CS.out j' hlt2
     rw[ej] at cj hr
     have d0:=Ac BQ.out (Aa cj) cj
     generalize (Ed P j').2.1=m at *
     generalize (Ed P j').2.2=X at *
     have HR:Hid (m' +m<=maxLen/\(m' +m)*104<=140737488355328):=⟨by unfold maxLen;omega,by omega⟩
     have RR:Hid _:=hr.below BQ.out
     have H1:Hid _:=h1
     have HL:Hid _:=hl
     have hm2:m' +m<=2097152:=by omega
     have HM2:Hid (m' +m=ptN P (j' +1)):=by show _=_;omega
     have E4:Hid _:=e4
     have hbs:w.heap.size<=wr.heap.size:=BQ.out.size
     clear e1 e2 e3 e4 hr hl h1 ej cj;go_wp2_with (at_builtin;refine F7 wr rfl _ _ 26 rfl w.heap.size 29 i0 _ 5 104 Tryz.underlying26 hi0 hz0 hz1 hz2 rfl (by decide) (.slice a' m' c') m' _ rfl OQ.out (.slice aj m qj) m X rfl RR.out HL.out H1.out HR.out.1 HR.out.2 hbs ?_)
     intro v5 w5 o5 _ b5;obtain⟨a5,c5,hv5,_⟩:=(Row.of_owns o5).len
     subst hv5;have FIN:Hid (w5.ownsRow w.heap.size 29 5 (.slice a5 (m' +m) c5) (m' +m) (ptC P (j' +1))/\Below w.heap.size w w5):=⟨by rw[E4.out];exact o5,BQ.out.trans b5⟩
     clear o5 b5 d0;go_wp2;go_roundw
     case rel=>exact⟨FIN.out.2,j' +1,m' +m,c5,a5,by go_num,by omega,hm2,rfl,HM2,FIN.out.1⟩
     case measure=>simp[intOf];omega
    ·have hjk' :j' =k:=by omega
     have FIN:Hid (wr.ownsRow w.heap.size 29 5 (.slice a' m' c') (ptN P k) (ptC P k)):=by
      have h1:=OQ.out
      have h2:=HM.out
      rw[hjk'] at h1 h2
      rw[h2] at h1 ⊢
      exact h1
     clear hjk';go_wp2;go_ret;exact⟨_,rfl,FIN.out,BQ.out⟩
end
end Go.Proofs.YtnakaabnjelffaaGreat
