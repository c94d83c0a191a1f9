/-
  Leaves, parents and what is given down, as trees side by side; plain mathematics.
  The library's Max and Index over numbers; the program's busiest: the kid to which most messages belong.
  The contract of the program's busiest.
-/
import Derived.Test.YtcmofojechfccaaGreatOfDrain25
import Derived.Test.YtcmofojechfccaaGreatOfDrain19
import Derived.Test.YtcmofojechfccaaGreatOfDrain22
namespace Go.Proofs.YtcmofojechfccaaGreat
set_option maxRecDepth 100000
set_option maxHeartbeats 8000000
section
variable {d:Nat} {f g h:Int->Int × Bool}

theorem mapOkB_of {l:PL} (a:MapP l):mapOkB l=true:=(mapOkB_iff _).2 a
theorem Rt.leaf {ps:PL} {lo hi:Int} (a:MapP ps) (b:KeysIn lo hi ps) (hl:ps.length<=4):Rt 1 (getP ps) lo hi (leafT ps):=by
 refine⟨?_,fun k _ _=>valF_leaf rfl⟩
 rw[depthF_leaf rfl,if_pos]
 simp only[leafOkB,Bool.and_eq_true,decide_eq_true_eq]
 refine⟨mapOkB_of a,hl,rfl,allB_true fun i hi0=> ?_⟩
 have:=b ps[i] (List.getElem_mem hi0)
 refine inB_iff.2 ?_
 have e:kOf (leafT ps).pairs i=(ps[i]'hi0).1:=by
  show kOf ps i=_
  rw[kOf,List.getD,List.getElem?_eq_getElem (show i<ps.length from hi0)];rfl
 rw[e]
 omega
theorem Rt.fork {lo hi:Int} {cs:List Int} {ts:List Tr} {b:ML} (a:Seg d f lo hi cs ts) (hd:0<d) (h2:2<=ts.length) (h4:ts.length<=4) (hb:b.length<=6) (hm:MsIn lo hi b) :
  Rt (d+1) (fun k=>updA (f k) (ofK b k)) lo hi ⟨false,[],cs,ts,b⟩:=by
 have hl:=a.len
 have hc:=a.cuts
 have hf:forkOkB ⟨false,[],cs,ts,b⟩ lo hi=true:=by
  simp only[forkOkB,shapeB,Bool.and_eq_true,decide_eq_true_eq]
  refine⟨⟨rfl,⟨h2,h4⟩,hl,hb⟩,allB_true fun i hi0=> ?_,allB_true fun i hi0=> ?_⟩
  ·obtain⟨⟨m1,m2⟩,m3,m4⟩:=hm b[i] (List.getElem_mem hi0)
   rw[ml_at b i hi0] at m1 m2 m3 m4
   simp only[msgAt,Bool.and_eq_true]
   refine⟨m1,by simpa using m2,inB_iff.2 ⟨m3, ?_⟩⟩
   have:mK b i<hi:=m4
   show mK b i<=hi-1
   omega
  ·have:=hc i hi0
   refine inB_iff.2 ?_
   unfold frC at this
   show fromT ⟨false,[],cs,ts,b⟩ lo i+1<=iAt cs i/\iAt cs i<=hi-1
   unfold fromT
   show(if i=0 then lo else iAt cs (i-1))+1<=_/\_
   omega
 have hk:∀i,i<ts.length->kidF d ⟨false,[],cs,ts,b⟩ lo hi i=d:=fun i hi0=>(a.at i hi0).1
 refine⟨?_,fun k h1 h3=> ?_⟩
 ·rw[depthF_fork rfl hf,kidsD_yes]
  ·rw[hk 0 (by omega)]
  ·rw[hk 0 (by omega)];omega
  ·intro i hi0;rw[hk i hi0,hk 0 (by omega)]
 ·rw[valF_fork rfl]
  have hp:=prefK_le cs k
  have hr:=prefK_range hp hc ⟨h1,h3⟩ rfl
  have:=(a.at (prefK cs k) (by omega)).2 k hr.1 hr.2
  show updA (valF d (ts.getD (prefK cs k) noTr) k) (ofK b k)=_
  rw[this]
theorem Rt.fork0 {lo hi:Int} {cs:List Int} {ts:List Tr} (a:Seg d f lo hi cs ts) (hd:0<d) (h2:2<=ts.length) (h4:ts.length<=4):Rt (d+1) f lo hi ⟨false,[],cs,ts,[]⟩:=
 Rt.fork a hd h2 h4 (by simp) (fun m hm=>by simp at hm)
theorem kidsD_at {e:Nat->Nat} {n r:Nat} (hr:kidsD e n=r+1):∀i,i<n->e i=r:=by
 intro i hi0
 unfold kidsD at hr
 split at hr
 ·rename_i hq
  simp only[Bool.and_eq_true] at hq
  have:=allB_at hq.2 hi0
  simp only[beq_iff_eq] at this
  omega
 ·omega
theorem Rt.kids {lo hi:Int} {T:Tr} (a:depthF (d+1) T lo hi=d+1) (hl:T.leaf=false):forkOkB T lo hi=true/\Seg d (fun k=>valF d (kidK T k) k) lo hi T.cuts T.kids:=by
 have hf:=(depthF_fork_ok (m:=d) (T:=T) (lo:=lo) (hi:=hi) (by omega) hl).1
 refine⟨hf, ?_⟩
 obtain⟨q1,q2,q3,q4,q5,q6⟩:=forkOk_parts hf
 have hc:CsIn lo hi T.cuts:=cut_parts q6
 rw[depthF_fork hl hf] at a
 have hk:=kidsD_at a
 refine Seg.of q3 hc fun i hi0=>⟨hk i hi0,fun k h1 h2=> ?_⟩
 have:=hc.pref (i:=i) (by omega) h1 h2
 show _=valF d (kidT T (prefK T.cuts k)) k
 rw[this];rfl

theorem asc_at {l:PL} (a:Asc l) {i j:Nat} (hij:i<j) (hj:j<l.length):kOf l i<kOf l j:=by
 have h1:=List.pairwise_iff_getElem.1 a i j (by simpa[keys] using(by omega:i<l.length)) (by simpa[keys] using hj) hij
 have h2:i<l.length:=by omega
 simpa[keys,kOf,List.getD,hj,h2] using h1
theorem sub_mapP {l:PL} (a:MapP l) (i n:Nat):MapP ((l.drop i).take n):=
 ⟨List.Pairwise.sublist (List.Sublist.map Prod.fst ((List.take_sublist _ _).trans (List.drop_sublist _ _))) a.1,fun p hp=>a.2 p (List.mem_of_mem_drop (List.mem_of_mem_take hp))⟩
theorem getP_sub {l:PL} {i n:Nat} {k:Int} (h1:∀j,j<i->j<l.length->kOf l j<k) (h2:∀j,i+n<=j->j<l.length->k<kOf l j):getP ((l.drop i).take n) k=getP l k:=by
 have e:l=l.take i++((l.drop i).take n++(l.drop i).drop n):=by rw[List.take_append_drop,List.take_append_drop]
 conv=>rhs;rw[e]
 rw[getP_append_right (fun p hp=> ?_),getP_append_left (fun p hp=> ?_)]
 ·rw[List.drop_drop] at hp
  obtain⟨j,hj,hk⟩:=List.getElem_of_mem hp
  rw[List.getElem_drop] at hk
  rw[List.length_drop] at hj
  have:=h2 (i+n+j) (by omega) (by omega)
  have e2:kOf l (i+n+j)=p.1:=by rw[←hk];simp[kOf,List.getD,show i+n+j<l.length by omega]
  omega
 ·obtain⟨j,hj,hk⟩:=List.getElem_of_mem hp
  rw[List.getElem_take] at hk
  rw[List.length_take] at hj
  have:=h1 j (by omega) (by omega)
  have e2:kOf l j=p.1:=by rw[←hk];simp[kOf,List.getD,show j<l.length by omega]
  omega
theorem sub_keys {l:PL} {i n:Nat} {p:Int × Int} (hp:p∈(l.drop i).take n):∃j,i<=j/\j<i+n/\j<l.length/\p.1=kOf l j:=by
 obtain⟨j,hj,hk⟩:=List.getElem_of_mem hp
 rw[List.getElem_take,List.getElem_drop] at hk
 rw[List.length_take,List.length_drop] at hj
 exact⟨i+j,by omega,by omega,by omega,by rw[←hk];simp[kOf,List.getD,show i+j<l.length by omega]⟩
theorem asc_le {l:PL} (a:Asc l) {i j:Nat} (hij:i<=j) (hj:j<l.length):kOf l i<=kOf l j:=by
 rcases Nat.lt_or_ge i j with h|h
 ·exact Int.le_of_lt (asc_at a h hj)
 ·have:i=j:=by omega
  subst this;exact Int.le_refl _

def loF (ps:PL) (lo:Int) (i:Nat):Int:=if i=0 then lo else kOf ps i
theorem Seg.leaves {ps:PL} {lo hi:Int} (a:MapP ps) (b:KeysIn lo hi ps):∀n i,ps.length-i<=n->i<ps.length->2<=ps.length-i->Seg 1 (getP ps) (loF ps lo i) hi (lfC ps (i+manyN (ps.length-i))) (lfT ps i):=by
 intro n
 induction n with
 |zero=>intro i h1 h2;omega
 |succ n ih=>
  intro i h1 h2 h3
  have hm:=manyN_two (ps.length-i)
  rw[lfT_eq,if_pos h2]
  have h3' :ps.length-i=3->manyN (ps.length-i)=3:=fun h=>by rw[h];rfl
  have hin:∀j,j<ps.length->lo<=kOf ps j/\kOf ps j<hi:=fun j hj=>by
   have:=b ps[j] (List.getElem_mem hj)
   simpa[kOf,List.getD,hj] using this
  have hlo:∀j,i<=j->j<ps.length->loF ps lo i<=kOf ps j:=fun j hij hj=>by
   unfold loF
   split
   ·exact(hin j hj).1
   ·exact asc_le a.1 hij hj
  have hbe:∀k,loF ps lo i<=k->∀j,j<i->j<ps.length->kOf ps j<k:=fun k hk j hji hj=>by
   unfold loF at hk
   rw[if_neg (by omega)] at hk
   have:=asc_at a.1 hji h2
   omega
  generalize hM:manyN (ps.length-i)=M at *
  have hpl:((ps.drop i).take M).length<=4:=by rw[List.length_take];omega
  by_cases he:i+M<ps.length
  ·have h4:2<=ps.length-(i+M):=by omega
   have r:=ih (i+M) (by omega) he h4
   rw[lfC_eq,if_pos he,if_pos (by omega),List.singleton_append]
   have e1:loF ps lo (i+M)=kOf ps (i+M):=by rw[loF,if_neg (by omega)]
   rw[e1] at r
   refine⟨(Rt.leaf (sub_mapP a i M) (fun p hp=> ?_) hpl).congr fun k k1 k2=> ?_, ?_,(hin _ he).2,r⟩
   ·obtain⟨j,j1,j2,j3,j4⟩:=sub_keys hp
    rw[j4]
    exact⟨hlo j j1 j3,asc_at a.1 j2 he⟩
   ·exact getP_sub (hbe k k1) fun j j1 j2=>by have:=asc_le a.1 j1 j2;omega
   ·have:=hlo i (Nat.le_refl _) h2
    have:=asc_at a.1 (show i<i+M by omega) he
    omega
  ·have e1:lfT ps (i+M)=[]:=by rw[lfT_eq,if_neg he]
   have e2:lfC ps (i+M)=[]:=by rw[lfC_eq,if_neg he]
   rw[e1,e2]
   refine(Rt.leaf (sub_mapP a i M) (fun p hp=> ?_) hpl).congr fun k k1 k2=> ?_
   ·obtain⟨j,j1,j2,j3,j4⟩:=sub_keys hp
    rw[j4]
    exact⟨hlo j j1 j3,(hin j j3).2⟩
   ·exact getP_sub (hbe k k1) fun j j1 j2=>by omega
theorem Seg.leafM {ps:PL} {lo hi:Int} (a:MapP ps) (b:KeysIn lo hi ps):Seg 1 (getP ps) lo hi (leafM ps).2 (leafM ps).1:=by
 unfold YtcmofojechfccaaGreat.leafM
 split
 ·exact Rt.leaf a b (by assumption)
 ·have:=Seg.leaves a b ps.length 0 (by omega) (by omega) (by omega)
  have e:lfC ps 0=lfC ps (0+manyN (ps.length-0)):=by rw[lfC_eq ps 0,if_pos (by omega),if_neg (by omega),List.nil_append]
  show Seg 1 (getP ps) lo hi (lfC ps 0) (lfT ps 0)
  rw[e]
  exact this

theorem Seg.packs {m:TM} {lo hi:Int} (a:Seg d f lo hi m.2 m.1) (hd:0<d):∀n i,m.1.length-i<=n->i<m.1.length->2<=m.1.length-i->Seg (d+1) f (frC m.2 lo i) hi (pkC m (i+manyN (m.1.length-i))) (pkT m i):=by
 intro n
 induction n with
 |zero=>intro i h1 h2;omega
 |succ n ih=>
  intro i h1 h2 h3
  have hl:=a.len
  have hm:=manyN_two (m.1.length-i)
  rw[pkT_eq,if_pos h2,packT]
  have h3' :m.1.length-i=3->manyN (m.1.length-i)=3:=fun h=>by rw[h];rfl
  generalize hM:manyN (m.1.length-i)=M at *
  have s1:=(a.drop h2).take (n:=M-1) (by rw[List.length_drop];omega)
  have e1:toC (m.2.drop i) hi (M-1)=toC m.2 hi (i+(M-1)):=by
   unfold toC
   by_cases hc:i+(M-1)<m.2.length
   ·rw[if_pos (by rw[List.length_drop];omega),if_pos hc];simp[iAt,List.getD]
   ·rw[if_neg (by rw[List.length_drop];omega),if_neg hc]
  rw[e1,show M-1+1=M by omega] at s1
  have s2:=Rt.fork0 s1 hd (by rw[List.length_take,List.length_drop];omega) (by rw[List.length_take];omega)
  by_cases he:i+M<m.1.length
  ·have r:=ih (i+M) (by omega) he (by omega)
   rw[pkC_eq,if_pos he,if_pos (by omega),List.singleton_append]
   have e2:frC m.2 lo (i+M)=iAt m.2 (i+M-1):=by rw[frC,if_neg (by omega)]
   have e3:toC m.2 hi (i+(M-1))=iAt m.2 (i+M-1):=by rw[toC,if_pos (by omega),show i+(M-1)=i+M-1 by omega]
   rw[e2] at r
   rw[e3] at s2
   refine⟨s2, ?_,(a.cuts _ (by omega)).2,r⟩
   unfold frC
   split
   ·exact a.cuts.lo _ (by omega)
   ·exact a.cuts.asc _ _ (by omega) (by omega)
  ·have e4:pkT m (i+M)=[]:=by rw[pkT_eq,if_neg he]
   have e5:pkC m (i+M)=[]:=by rw[pkC_eq,if_neg he]
   have e6:toC m.2 hi (i+(M-1))=hi:=by rw[toC,if_neg (by omega)]
   rw[e4,e5]
   rw[e6] at s2
   exact s2
theorem Seg.pack {m:TM} {lo hi:Int} (a:Seg d f lo hi m.2 m.1) (hd:0<d) (h2:2<=m.1.length):Seg (d+1) f lo hi (packM m).2 (packM m).1:=by
 have:=a.packs hd m.1.length 0 (by omega) (by omega) (by omega)
 have e:pkC m 0=pkC m (0+manyN (m.1.length-0)):=by rw[pkC_eq m 0,if_pos (by omega),if_neg (by omega),List.nil_append]
 show Seg (d+1) f lo hi (pkC m 0) (pkT m 0)
 rw[e]
 exact this

def GiveS (d:Nat) (g:Tr->ML->TM):Prop:=∀T ms lo hi,depthF d T lo hi=d->MsIn lo hi ms->Seg d (fun k=>updA (valF d T k) (ofK ms k)) lo hi (g T ms).2 (g T ms).1
theorem MsIn.mine {lo hi:Int} {cs:List Int} {b:ML} (a:MsIn lo hi b) (hc:CsIn lo hi cs) {i:Nat} (hi0:i<=cs.length):MsIn (frC cs lo i) (toC cs hi i) (mineF cs i b):=fun m hm=>by
 obtain⟨h1,h2⟩:=List.mem_filter.1 hm
 obtain⟨h3,h4⟩:=a m h1
 exact⟨h3,prefK_range hi0 hc h4 (by simpa using h2)⟩
theorem MsIn.rest {lo hi:Int} {cs:List Int} {b:ML} (a:MsIn lo hi b) (i:Nat):MsIn lo hi (restF cs i b):=fun m hm=>a m (List.mem_filter.1 hm).1
theorem ofK_mine {cs:List Int} {k:Int} {i:Nat} (b:ML) (e:prefK cs k=i):ofK (mineF cs i b) k=ofK b k/\ofK (restF cs i b) k=[]:=by
 constructor
 ·unfold ofK mineF
  rw[List.filter_filter]
  refine List.filter_congr fun m _=> ?_
  by_cases hm:m.2.1=k<;>simp[hm,e]
 ·refine List.filter_eq_nil_iff.2 fun m hm=> ?_
  have:=(List.mem_filter.1 hm).2
  intro h1
  simp at h1
  rw[h1,e] at this
  simp at this
theorem ofK_rest {cs:List Int} {k:Int} {i:Nat} (b:ML) (e:prefK cs k≠i):ofK (restF cs i b) k=ofK b k/\ofK (mineF cs i b) k=[]:=by
 constructor
 ·unfold ofK restF
  rw[List.filter_filter]
  refine List.filter_congr fun m _=> ?_
  by_cases hm:m.2.1=k<;>simp[hm,e]
 ·refine List.filter_eq_nil_iff.2 fun m hm=> ?_
  have:=(List.mem_filter.1 hm).2
  intro h1
  simp at h1
  rw[h1] at this
  simp[e] at this
theorem Seg.kid {G:Tr->ML->TM} (hg:GiveS d G) {m:TM} {lo hi:Int} {b:ML} (a:Seg d f lo hi m.2 m.1) (hb:MsIn lo hi b) {i:Nat} (hi0:i<m.1.length):Seg d (fun k=>updA (f k) (ofK b k)) (frC m.2 lo i) (toC m.2 hi i) (G (m.1.getD i noTr) (mineF m.2 i b)).2 (G (m.1.getD i noTr) (mineF m.2 i b)).1:=by
 have hl:=a.len
 have hr:=a.at i hi0
 refine(hg _ _ _ _ hr.1 (hb.mine a.cuts (by omega))).congr fun k h1 h2=> ?_
 rw[hr.2 k h1 h2,(ofK_mine b (a.cuts.pref (by omega) h1 h2)).1]
theorem Seg.down {G:Tr->ML->TM} (hg:GiveS d G) {m:TM} {lo hi:Int} {b:ML} (a:Seg d f lo hi m.2 m.1) (hb:MsIn lo hi b):Seg d (fun k=>updA (f k) (ofK b k)) lo hi (downM G m b).2 (downM G m b).1:=by
 rw[downM_both]
 have hl:=a.len
 refine Seg.both _ hl a.cuts fun i hi0=> ?_
 unfold kidM
 split
 ·exact a.kid hg hb hi0
 ·rename_i hz
  have hz' :mineF m.2 i b=[]:=List.length_eq_zero_iff.1 (by omega)
  refine(a.at i hi0).congr fun k h1 h2=> ?_
  rw[←(ofK_mine b (a.cuts.pref (by omega) h1 h2)).1,hz'];rfl
theorem Seg.loop {G:Tr->ML->TM} (hg:GiveS d G) {lo hi:Int}:∀n (m:TM) (b:ML) (f:Int->Int × Bool),Seg d f lo hi m.2 m.1->MsIn lo hi b→
  ∃f',Seg d f' lo hi (loopM G n m b).1.2 (loopM G n m b).1.1/\MsIn lo hi (loopM G n m b).2/\∀k,lo<=k->k<hi->updA (f' k) (ofK (loopM G n m b).2 k)=updA (f k) (ofK b k)
 |0,m,b,f,a,hb=>⟨f,a,hb,fun _ _ _=>rfl⟩
 |n+1,m,b,f,a,hb=>by
  rw[loopM]
  split
  ·have hl:=a.len
   have hat:=(mostTo_is m.2 b m.1.length (by omega)).1
   generalize (mostTo m.2 b m.1.length).1=i at *
   let hh:Int->Int × Bool:=fun k=>if prefK m.2 k=i then updA (f k) (ofK b k) else f k
   have p1:Seg d hh (frC m.2 lo i) (toC m.2 hi i) (G (m.1.getD i noTr) (mineF m.2 i b)).2 (G (m.1.getD i noTr) (mineF m.2 i b)).1:=
    (a.kid hg hb hat).congr fun k h1 h2=>by
     show _=if _ then _ else _
     rw[if_pos (a.cuts.pref (by omega) h1 h2)]
   have p2:Seg d hh lo hi (putM m i (G (m.1.getD i noTr) (mineF m.2 i b))).2 (putM m i (G (m.1.getD i noTr) (mineF m.2 i b))).1:=
    a.put hat p1 fun k _ _ h3=>by
     show _=if _ then _ else _
     rw[if_neg h3]
   obtain⟨f',q1,q2,q3⟩:=Seg.loop hg n _ (restF m.2 i b) hh p2 (hb.rest i)
   refine⟨f',q1,q2,fun k h1 h2=>(q3 k h1 h2).trans ?_⟩
   show updA (if prefK m.2 k=i then updA (f k) (ofK b k) else f k) _=_
   by_cases e:prefK m.2 k=i
   ·rw[if_pos e,(ofK_mine b e).2];rfl
   ·rw[if_neg e,(ofK_rest b e).1]
  ·exact⟨f,a,hb,fun _ _ _=>rfl⟩
theorem MsIn.shrink {lo hi:Int} {b:ML} (a:∀m∈b,lo<=m.2.1/\m.2.1<hi):MsIn lo hi (shrinkF b):=fun m hm=>by
 obtain⟨x,hx,he⟩:=shrink_keys hm
 exact⟨shrinkF_ok b m hm,by rw[←he];exact a x hx⟩
theorem giveM_seg:∀d,GiveS (d+1) (giveM (d+1)):=by
 intro d
 induction d with
 |zero=>
  intro T ms lo hi hT hms
  cases hl:T.leaf
  ·have hk:=(depthF_fork_ok (m:=0) (T:=T) (lo:=lo) (hi:=hi) (by omega) hl)
   have:=hk.2 0 (by have:=(forkOk_parts hk.1).2.1.1;omega)
   exact absurd rfl this
  ·obtain⟨q1,q2,q3,q4,q5,q6⟩:=leafOk_parts (depthF_leaf_ok (m:=0) (T:=T) (lo:=lo) (hi:=hi) (by omega) hl)
   rw[giveM,if_pos hl]
   refine(Seg.leafM (allL_mapP q1 ms) (allL_keys q6 fun m hm=>(hms m hm).2)).congr fun k _ _=> ?_
   rw[getP_allL q1,valF_leaf hl]
 |succ d ih=>
  intro T ms lo hi hT hms
  cases hl:T.leaf
  ·obtain⟨hf,hs⟩:=Rt.kids hT hl
   obtain⟨q1,q2,q3,q4,q5,q6⟩:=forkOk_parts hf
   have hb:=bufOk_parts q5
   rw[giveM,if_neg (by rw[hl];simp)]
   have hB:MsIn lo hi (shrinkF (T.buf++ms)):=MsIn.shrink fun m hm=>(List.mem_append.1 hm).elim (fun h1=>(hb m h1).2) (fun h1=>(hms m h1).2)
   obtain⟨f',r1,r2,r3⟩:=Seg.loop ih (shrinkF (T.buf++ms)).length (T.kids,T.cuts) (shrinkF (T.buf++ms)) _ hs hB
   have hsh:=(loopM_ok (giveM_ok (d+1)) (shrinkF (T.buf++ms)).length (T.kids,T.cuts) (shrinkF (T.buf++ms)) ⟨q3,fun t ht=>by
    obtain⟨i,hi0,rfl⟩:=List.getElem_of_mem ht
    have e:=(hs.at i hi0).1
    have e2:T.kids.getD i noTr=T.kids[i]:=by simp[List.getD,hi0]
    rw[e2] at e
    have:=sh_of_depth (m:=d+1) (T:=T.kids[i]) (lo:=frC T.cuts lo i) (up:=toC T.cuts hi i) (by omega)
    rw[e] at this
    exact this⟩ (Nat.le_refl _))
   have hval:∀k,lo<=k->k<hi->updA (f' k) (ofK (loopM (giveM (d+1)) (shrinkF (T.buf++ms)).length (T.kids,T.cuts) (shrinkF (T.buf++ms))).2 k)=updA (valF (d+1+1) T k) (ofK ms k):=fun k h1 h2=>by
    rw[r3 k h1 h2,upd_shrink,ofK_append,updA_append,valF_fork hl]
   generalize loopM (giveM (d+1)) (shrinkF (T.buf++ms)).length (T.kids,T.cuts) (shrinkF (T.buf++ms))=r at *
   unfold endM
   split
   ·have hd:=Seg.down ih r1 r2
    exact((hd.pack (by omega) (by have:=(downM_ok (giveM_ok (d+1)) hsh.1 r.2).2.2;omega))).congr hval
   ·exact(Rt.fork r1 (by omega) (by have:=hsh.2.2.1;simp only at this;omega) (by omega) hsh.2.2.2 r2).congr hval
  ·have:=depthF_leaf (m:=d+1) (T:=T) (lo:=lo) (hi:=hi) hl
   rw[hT] at this
   split at this<;>omega
end
section
open Go.RowKit

theorem maxI_any (v:Value) (l:List Int) (w:World) (hr:Row w v l.length (flatI l)) (h0:0<l.length) (hb:∀i,i<l.length-> -9223372036854775808<=iAt l i/\iAt l i<=9223372036854775807) :
  Calls Tryz.prog 201 #[v] w fun e w' =>∃r:Int,e= .returned (.int .i64 r)/\(∀i,i<l.length->iAt l i<=r)/\(∃i,i<l.length/\iAt l i=r)/\w' =w:=by
 obtain⟨a,b,off,cap,rfl,hcap,hmax,ha,hk⟩:=hr.ints
 have hal:=ha h0
 subst hal
 unfold maxLen at hmax
 have HK:Hid _:=hk
 have d0:=hk 0 h0
 simp only[Nat.add_zero] at d0
 have HB:Hid _:=hb
 have hb0:=hb 0 h0
 have P0:Hid (∀i,i<1->iAt l i<=iAt l 0):=fun i hi=>by rw[show i=0 by omega];exact Int.le_refl _
 have E0:Hid (∃i,i<l.length/\iAt l i=iAt l 0):=⟨0,h0,rfl⟩
 clear hk hb
 generalize hn:l.length=n at *
 clear hn
 have hn1:¬((n:Int)<1):=by omega
 go_enter Tryz.func201,Tryz.ntmps201
 go_wp2
 go_loopw [3,4] (fun s ix wr=>w=wr/\∃(k:Nat) (r:Int),s= .int .i64 r/\ix= .int .i64 k/\1<=k/\k<=n/\Hid (∀i,i<k->iAt l i<=r)/\Hid (∃i,i<n/\iAt l i=r))
  (fun _ ix _=>n-(intOf ix).toNat)
 case atStart=>exact⟨rfl,1,_,rfl,rfl,Nat.le_refl _,by omega,P0,E0⟩
 case round=>
  obtain⟨rfl,k,r,rfl,rfl,hk1,hkn,PR,ER⟩:=hrel
  by_cases hlt:k<n
  ·have dk:=HK.out k hlt
   have bk:=HB.out k hlt
   have PM:Hid (∀i,i<k+1->iAt l i<=max r (iAt l k)):=fun i hi=>by
    by_cases e:i=k
    ·rw[e];omega
    ·have:=PR.out i (by omega);omega
   have EM:Hid (∃i,i<n/\iAt l i=max r (iAt l k)):=by
    by_cases e:iAt l k<=r
    ·obtain⟨i,h1,h2⟩:=ER.out
     exact⟨i,h1,by rw[h2];omega⟩
    ·exact⟨k,hlt,by omega⟩
   generalize iAt l k=xk at *
   have hkn' :(k:Int)<(n:Int):=by omega
   have hk0:(0:Int)<=(k:Int):=by omega
   go_wp2
   go_roundw
   case rel=>exact⟨trivial,k+1,max r xk,by first|rfl|go_num,by go_num,by omega,by omega,PM,EM⟩
   case measure=>simp[intOf];omega
  ·have hkn' :¬((k:Int)<(n:Int)):=by omega
   go_wp2
   go_ret
   exact⟨r,rfl,fun i hi=>PR.out i (by omega),ER.out,rfl⟩

theorem indexI_any (v:Value) (l:List Int) (x:Int) (i:Nat) (w:World) (hr:Row w v l.length (flatI l)) (hi:i<l.length) (h1:iAt l i=x) (h2:∀j,j<i->iAt l j≠x) :
  Calls Tryz.prog 200 #[v, .int .i64 x] w fun e w' =>e= .returned (.int .i64 (i:Nat))/\w' =w:=by
 obtain⟨a,b,off,cap,rfl,hcap,hmax,ha,hk⟩:=hr.ints
 have hal:=ha (by omega)
 subst hal
 unfold maxLen at hmax
 have HK:Hid _:=hk
 have H2:Hid _:=h2
 have H1:Hid _:=h1
 clear hk h1 h2
 generalize hn:l.length=n at *
 clear hn
 go_enter Tryz.func200,Tryz.ntmps200
 go_wp2
 go_loopw [8] (fun ix wr=>w=wr/\∃k:Nat,ix= .int .i64 k/\k<=i) (fun ix _=>n-(intOf ix).toNat)
 case atStart=>exact⟨rfl,0,rfl,Nat.zero_le _⟩
 case round=>
  obtain⟨rfl,k,rfl,hki⟩:=hrel
  have dk:=HK.out k (by omega)
  have hkn' :(k:Int)<(n:Int):=by omega
  have hk0:(0:Int)<=(k:Int):=by omega
  by_cases e:k=i
  ·have e2:iAt l k=x:=by rw[e];exact H1.out
   rw[e2] at dk
   have E:Hid (k=i):=e
   clear e e2
   go_wp2
   go_ret
   exact⟨by rw[E.out];rfl,rfl⟩
  ·have e2:=H2.out k (by omega)
   generalize iAt l k=xk at *
   have e3:(x==xk)=false:=by rw[beq_eq_false_iff_ne];exact fun h=>e2 h.symm
   go_wp2
   go_roundw
   case rel=>exact⟨trivial,k+1,by go_num,by omega⟩
   case measure=>simp[intOf];omega

theorem mostTo_first (cs:List Int) (b:ML):∀n j,j<(mostTo cs b n).1->((mineF cs j b).length:Int)<(mostTo cs b n).2:=by
 intro n
 induction n with
 |zero=>intro j h;simp[mostTo] at h
 |succ n ih=>
  intro j
  rw[mostTo]
  split
  ·rename_i h
   intro hj
   have:=mostTo_ge cs b n j hj
   simp only
   omega
  ·exact ih j
end
section
open Go.RowKit

def cntL (cs:List Int) (b:ML) (k:Nat):List Int:=(List.range (cs.length+1)).map fun i=>((mineF cs i (b.take k)).length:Int)
theorem cntL_length (cs:List Int) (b:ML) (k:Nat):(cntL cs b k).length=cs.length+1:=by simp[cntL]
theorem cntL_at (cs:List Int) (b:ML) (k i:Nat) (h:i<cs.length+1):iAt (cntL cs b k) i=((mineF cs i (b.take k)).length:Int):=by
 simp[cntL,iAt,List.getD,h]
theorem cntL_zero (cs:List Int) (b:ML):cntL cs b 0=List.replicate (cs.length+1) 0:=by
 rw[cntL]
 refine List.ext_getElem (by simp) fun i h1 h2=> ?_
 simp[mineF]
theorem cntL_succ (cs:List Int) (b:ML) (k:Nat) (h:k<b.length):cntL cs b (k+1)=(cntL cs b k).set (prefK cs (mK b k)) (iAt (cntL cs b k) (prefK cs (mK b k))+1):=by
 have hp:=prefK_le cs (mK b k)
 refine List.ext_getElem (by simp[cntL]) fun i h1 h2=> ?_
 have hi:i<cs.length+1:=by rw[cntL_length] at h1;exact h1
 rw[List.getElem_set]
 have e1:(cntL cs b (k+1))[i]=iAt (cntL cs b (k+1)) i:=by simp[iAt,List.getD,h1]
 rw[e1,cntL_at _ _ _ _ hi,mineF_succ cs i b k h]
 split
 ·rename_i hq
  rw[hq,cntL_at _ _ _ _ hi]
  simp
 ·rename_i hq
  have h3:i<(cntL cs b k).length:=by rw[cntL_length];exact hi
  have e2:(cntL cs b k)[i]=iAt (cntL cs b k) i:=by simp[iAt,List.getD,h3]
  rw[e2,cntL_at _ _ _ _ hi]

theorem busiest_any (vc vb:Value) (cs:List Int) (b:ML) (lo hi:Int) (w:World) (hc:Row w vc cs.length (flatI cs)) (hb:Row w vb b.length (flatM b)) (hs:CsIn lo hi cs) (hn:cs.length<=1048576) (hm:b.length<=2097152) :
  Calls Tryz.prog 186 #[vc,vb] w fun e w' =>e= .returned (.int .i64 ((mostTo cs b (cs.length+1)).1:Nat))/\Below w.heap.size w w' :=by
 obtain⟨i0,hi0,hz0,hz1,hz2⟩:=info_parts Tryz.info3
 obtain⟨a2,q2,hv2,_⟩:=hc.len
 have KA:Hid (∀(x:Int) (w1:World),Below w.heap.size w w1->Calls Tryz.prog 187 #[vc, .int .i64 x] w1 fun e w' =>e= .returned (.int .i64 (prefK cs x:Nat))/\Below w1.heap.size w1 w'):=fun x w1 hb' =>by
  have:=kidAt_any vc cs x w1 (hc.below hb')
  rw[hs.cnt] at this
  exact this
 subst hv2
 obtain⟨a,bb,off,cap,hvb,hcap,hmax,ha,c0,c1,c2⟩:=hb.msgs
 subst hvb
 unfold maxLen at hmax
 have MG:Hid (∀(k:Nat) (w1:World),Below w.heap.size w w1->k<b.length->w1.cell? ⟨bb,off+k*3,none⟩=some (.int .i64 (mO b k))/\w1.cell? ⟨bb,off+k*3+1,none⟩=some (.int .i64 (mK b k))/\w1.cell? ⟨bb,off+k*3+2,none⟩=some (.int .i64 (mV b k))):=fun k w1 hb' hk=>
  ⟨cell_lowB hb' (cell_lt (c0 k hk)) (c0 k hk),cell_lowB hb' (cell_lt (c1 k hk)) (c1 k hk),cell_lowB hb' (cell_lt (c2 k hk)) (c2 k hk)⟩
 have CS:Hid (∀k,k<b.length->cntL cs b (k+1)=(cntL cs b k).set (prefK cs (mK b k)) (iAt (cntL cs b k) (prefK cs (mK b k))+1)):=fun k=>cntL_succ cs b k
 have CL:Hid (∀k,(cntL cs b k).length=cs.length+1):=cntL_length cs b
 have CA:Hid (∀k i,i<cs.length+1->0<=iAt (cntL cs b k) i/\iAt (cntL cs b k) i<=2097152):=fun k i h=>by
  rw[cntL_at _ _ _ _ h]
  have:=mineF_length cs i (b.take k)
  have:(b.take k).length<=b.length:=by rw[List.length_take];omega
  omega
 have CZ:Hid (cntL cs b 0=List.replicate (cs.length+1) 0):=cntL_zero cs b
 have PL:Hid (∀x,prefK cs x<=cs.length):=prefK_le cs
 have FIN:Hid (∀(v:Value) (w1:World),Row w1 v (cs.length+1) (flatI (cntL cs b b.length))->Calls Tryz.prog 201 #[v] w1 fun e w' =>∃r:Int,e= .returned (.int .i64 r)/\(Calls Tryz.prog 200 #[v, .int .i64 r] w1 fun e w' =>e= .returned (.int .i64 ((mostTo cs b (cs.length+1)).1:Nat))/\w' =w1)/\w' =w1):=fun v w1 hr=>by
  have hl:=cntL_length cs b b.length
  rw[←hl] at hr
  refine(maxI_any v _ w1 hr (by omega) (fun i h=>by have:=CA.out b.length i (by omega);omega)).mono ?_
  rintro e w' ⟨r,rfl,h1,⟨j,h2,h3⟩,rfl⟩
  refine⟨r,rfl, ?_,rfl⟩
  have hat:∀i,i<cs.length+1->iAt (cntL cs b b.length) i=((mineF cs i b).length:Int):=fun i h=>by rw[cntL_at _ _ _ _ h,List.take_length]
  obtain⟨m1,m2⟩:=mostTo_is cs b (cs.length+1) (by omega)
  have hr2:(mostTo cs b (cs.length+1)).2=r:=by
   have g1:=h1 _ (by rw[hl];exact m1)
   rw[hat _ m1, ← m2] at g1
   have g2:=mostTo_ge cs b (cs.length+1) j (by omega)
   rw[←hat j (by omega),h3] at g2
   omega
  exact indexI_any v _ r (mostTo cs b (cs.length+1)).1 w' hr (by omega) (by rw[hat _ m1, ← m2,hr2]) (fun i h e=>by
   rw[hat i (by omega)] at e
   have:=mostTo_first cs b (cs.length+1) i h
   omega)
 clear hc hb hs c0 c1 c2
 generalize (mostTo cs b (cs.length+1)).1=R at *
 have CZ2:Hid (List.replicate (cs.length+1) (Value.int .i64 0)=flatI (cntL cs b 0)):=by
  show _=_
  rw[CZ.out];simp[flatI]
 generalize cs.length=nc at *
 generalize hbl:b.length=nb at *
 clear hbl
 have hw1:IntKind.i64.wrap ((nc:Int)+1)=(nc:Int)+1:=by rw[IntKind.wrap_i64];omega
 go_enter Tryz.func186,Tryz.ntmps186
 go_wp2_with (at_make;refine wpList_make_full _ rfl _ _ 23 rfl w.heap.size 3 i0 _ 1 Tryz.underlying23 hi0 hz0 hz1 .i64 .i64 _ _ (nc+1) rfl rfl rfl rfl ?c1 ?c2 ?c3 ?_)
 case c1=>rw[hz2];omega
 case c2=>unfold maxLen;omega
 case c3=>exact Nat.le_refl _
 intro w0 hown0 hgrow0
 have hb0:Below w.heap.size w w0:=(Below.refl _ _).grown hgrow0 (Nat.le_refl _) (fun k hk=>by cases hk)
 have O0:Hid (w0.ownsRow w.heap.size 3 1 (.slice (some ⟨w.heap.size,0,none⟩) (nc+1) (nc+1)) (nc+1) (flatI (cntL cs b 0))):=by
  rw[madeCells_all _ (.int .i64 0) (by decide) (fun i hi=>by match i,hi with|0,_=>rfl)] at hown0
  rw[←CZ2.out]
  show World.ownsRow _ _ _ _ _ _ _
  simpa using hown0
 have B0:Hid _:=hb0
 clear hgrow0 hown0 hb0 CZ CZ2
 go_wp2
 go_loopw [14] (fun ix wr=>∃k:Nat,k<=nb/\ix= .int .i64 k/\Hid (wr.ownsRow w.heap.size 3 1 (.slice (some ⟨w.heap.size,0,none⟩) (nc+1) (nc+1)) (nc+1) (flatI (cntL cs b k)))/\Hid (Below w.heap.size w wr))
  (fun ix _=>nb-(intOf ix).toNat)
 case atStart=>exact⟨0,Nat.zero_le _,rfl,O0,B0⟩
 case round=>
  obtain⟨k,hkl,rfl,OW,BW⟩:=hrel
  clear O0 B0
  by_cases hlt:k<nb
  ·have hal:=ha (by omega)
   subst hal
   obtain⟨d0,d1,d2⟩:=MG.out k wr BW.out hlt
   have KK:=KA.out (mK b k)
   have CS1:=CS.out k hlt
   have hp:=PL.out (mK b k)
   have hca:=CA.out k (prefK cs (mK b k)) (by omega)
   generalize mO b k=x0 at *
   generalize mK b k=x1 at *
   generalize mV b k=x2 at *
   have KK2:Hid _:=KK
   have CS2:Hid _:=CS1
   clear KK CS1
   generalize hpk:prefK cs x1=pk at *
   clear hpk
   have hk0:(0:Int)<=(k:Int):=by omega
   have hkn:(k:Int)<(nb:Int):=by omega
   have BA:Hid (Below w.heap.size w (wr.alloc (.cells #[.int .i64 x0, .int .i64 x1, .int .i64 x2] 38))):=BW.out.alloc BW.out.size _
   have OA:Hid _:=owns_below OW.out (al1 wr (.cells #[.int .i64 x0, .int .i64 x1, .int .i64 x2] 38))
   clear OW BW
   go_wp2_with fail
   refine Calls.mono (KK2.out _ BA.out) ?_
   rintro e w1 ⟨rfl,b1⟩
   have O1:=owns_below OA.out b1
   have B1:Hid (Below w.heap.size w w1):=Below.and BA.out b1
   have hat:=flatI_at (cntL cs b k) pk (by rw[CL.out];omega)
   have e0:=(O1.cellAt pk (by omega)).trans hat
   have f0:=O1.frozenAt pk
   have st:=(O1.stored pk (.int .i64 (iAt (cntL cs b k) pk+1))).1
   rw[flatI_set, ← CS2.out] at st
   have ST:Hid _:=st
   generalize iAt (cntL cs b k) pk=c0 at *
   have hp0:(0:Int)<=(pk:Int):=by omega
   have hpn:(pk:Int)<(nc:Int)+1:=by omega
   have hpn2:pk<nc+1:=by omega
   clear O1 hat st b1 d0 d1 d2
   go_wp2
   go_roundw
   case rel=>exact⟨k+1,by omega,by go_num,ST,B1.out.setCell (Nat.le_refl _) _⟩
   case measure=>simp[intOf];omega
  ·have hkk:k=nb:=by omega
   have hkn:¬((k:Int)<(nb:Int)):=by omega
   have FF:Hid _:=FIN.out _ wr (by have:=Row.of_owns OW.out;rw[hkk] at this;exact this)
   clear hkk
   go_wp2_with fail
   refine Calls.mono FF.out ?_
   rintro e w1 ⟨r,rfl,hI,rfl⟩
   have HI:Hid _:=hI
   clear hI
   go_wp2_with fail
   refine Calls.mono HI.out ?_
   rintro e w2 ⟨rfl,rfl⟩
   go_wp2
   go_ret
   exact⟨rfl,BW.out⟩
end
end Go.Proofs.YtcmofojechfccaaGreat
