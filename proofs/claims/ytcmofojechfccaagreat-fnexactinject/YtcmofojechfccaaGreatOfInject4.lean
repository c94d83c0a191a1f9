/-
  Maps as ascending lists of pairs: putting, deleting, getting; plain mathematics.
  Lists of messages as rows of cells; the laws' own functions on them.
-/
import Derived.Test.YtcmofojechfccaaGreatOfInject3
namespace Go.Proofs.YtcmofojechfccaaGreat
set_option maxRecDepth 100000
set_option maxHeartbeats 8000000
section
abbrev PL:=List (Int × Int)
def keys (l:PL):List Int:=l.map (·.1)
def vals (l:PL):List Int:=l.map (·.2)
theorem keys_length (l:PL):(keys l).length=l.length:=by simp[keys]
theorem vals_length (l:PL):(vals l).length=l.length:=by simp[vals]

def Asc (l:PL):Prop:=(keys l).Pairwise (· < ·)
theorem Asc.le {l:PL} (h:Asc l):(keys l).Pairwise (· <= ·):=h.imp (fun h=>Int.le_of_lt h)
theorem Asc.cons {p:Int × Int} {l:PL} (h:Asc (p::l)):(∀q∈l,p.1<q.1)/\Asc l:=by
 have:=List.pairwise_cons.1 (show(p.1::keys l).Pairwise (· < ·) from h)
 exact⟨fun q hq=>this.1 q.1 (List.mem_map_of_mem hq),this.2⟩
def putF (l:PL) (k v:Int):PL:=l.filter (fun p=>decide (p.1<k))++(k,v)::l.filter (fun p=>decide (k<p.1))
def delF (l:PL) (k:Int):PL:=l.filter (fun p=>decide (p.1≠k))

theorem filter_gt {l:PL} {k:Int} (h:∀q∈l,k<q.1):l.filter (fun p=>decide (p.1<k))=[]/\l.filter (fun p=>decide (k<p.1))=l/\l.filter (fun p=>decide (p.1≠k))=l:=by
 refine⟨List.filter_eq_nil_iff.2 (fun q hq=> ?_),List.filter_eq_self.2 (fun q hq=> ?_),List.filter_eq_self.2 (fun q hq=> ?_)⟩
 ·have:=h q hq;simp;omega
 ·have:=h q hq;simp;omega
 ·have:=h q hq;simp;omega
theorem countP_gt {l:PL} {k:Int} (h:∀q∈l,k<q.1):(keys l).countP (fun x=>decide (x<k))=0:=by
 rw[List.countP_eq_zero]
 intro a ha
 obtain⟨q,hq,rfl⟩:=List.mem_map.1 ha
 have:=h q hq;simp;omega
theorem contains_gt {l:PL} {k:Int} (h:∀q∈l,k<q.1):(keys l).contains k=false:=by
 rw[Bool.eq_false_iff]
 intro hc
 have hm:k∈keys l:=by simpa using hc
 obtain⟨q,hq,e⟩:=List.mem_map.1 hm
 have:=h q hq;omega

theorem keys_cons (p:Int × Int) (l:PL):keys (p::l)=p.1::keys l:=rfl
theorem vals_cons (p:Int × Int) (l:PL):vals (p::l)=p.2::vals l:=rfl

theorem count_cons (p:Int × Int) (l:PL) (k:Int):(keys (p::l)).countP (fun x=>decide (x<k))=(keys l).countP (fun x=>decide (x<k))+if p.1<k then 1 else 0:=by
 rw[keys_cons,List.countP_cons];simp
theorem contains_cons (p:Int × Int) (l:PL) (k:Int):(keys (p::l)).contains k=(decide (k=p.1)||(keys l).contains k):=by
 rw[keys_cons,List.contains_cons]
 congr 1

theorem put_found_keys {l:PL} (h:Asc l) {k v:Int} (hf:(keys l).contains k=true):keys (putF l k v)=keys l/\vals (putF l k v)=(vals l).set ((keys l).countP (fun x=>decide (x<k))) v:=by
 induction l with
 |nil=>simp[keys] at hf
 |cons p l ih=>
  obtain⟨h1,h2⟩:=h.cons
  by_cases hlt:p.1<k
  ·have hf' :(keys l).contains k=true:=by rw[contains_cons] at hf;simpa[show ¬k=p.1 by omega] using hf
   have:=ih h2 hf'
   have e:putF (p::l) k v=p::putF l k v:=by simp[putF,hlt,show ¬k<p.1 by omega]
   rw[e,count_cons,if_pos hlt,keys_cons,keys_cons,vals_cons,vals_cons,this.1,this.2]
   simp
  ·have hp:k=p.1:=by
    rw[contains_cons] at hf
    rcases Bool.or_eq_true _ _ ▸ hf with h' | h'
    ·simpa using h'
    ·have hm:k∈keys l:=by simpa using h'
     obtain⟨q,hq,e⟩:=List.mem_map.1 hm
     have:=h1 q hq;omega
   have hg:∀q∈l,k<q.1:=fun q hq=>by rw[hp];exact h1 q hq
   obtain⟨f1,f2,_⟩:=filter_gt hg
   have e:putF (p::l) k v=(k,v)::l:=by simp[putF,hlt,show ¬k<p.1 by omega,f1,f2]
   rw[e,count_cons,countP_gt hg,if_neg hlt]
   simp[keys_cons,vals_cons,hp]

theorem put_new_keys {l:PL} (h:Asc l) {k v:Int} (hf:(keys l).contains k=false) :
  keys (putF l k v)=(keys l).take ((keys l).countP (fun x=>decide (x<k)))++k::(keys l).drop ((keys l).countP (fun x=>decide (x<k)))∧
  vals (putF l k v)=(vals l).take ((keys l).countP (fun x=>decide (x<k)))++v::(vals l).drop ((keys l).countP (fun x=>decide (x<k))):=by
 induction l with
 |nil=>simp[keys,vals,putF]
 |cons p l ih=>
  obtain⟨h1,h2⟩:=h.cons
  rw[contains_cons,Bool.or_eq_false_iff] at hf
  have hne:¬k=p.1:=by simpa using hf.1
  by_cases hlt:p.1<k
  ·have:=ih h2 hf.2
   have e:putF (p::l) k v=p::putF l k v:=by simp[putF,hlt,show ¬k<p.1 by omega]
   rw[e,count_cons,if_pos hlt,keys_cons,keys_cons,vals_cons,vals_cons,this.1,this.2]
   simp
  ·have hg:∀q∈l,k<q.1:=fun q hq=>by have:=h1 q hq;omega
   obtain⟨f1,f2,_⟩:=filter_gt hg
   have e:putF (p::l) k v=(k,v)::p::l:=by simp[putF,hlt,show k<p.1 by omega,f1,f2]
   rw[e,count_cons,countP_gt hg,if_neg hlt]
   simp[keys_cons,vals_cons]

theorem del_found_keys {l:PL} (h:Asc l) {k:Int} (hf:(keys l).contains k=true) :
  keys (delF l k)=(keys l).take ((keys l).countP (fun x=>decide (x<k)))++(keys l).drop ((keys l).countP (fun x=>decide (x<k))+1)∧
  vals (delF l k)=(vals l).take ((keys l).countP (fun x=>decide (x<k)))++(vals l).drop ((keys l).countP (fun x=>decide (x<k))+1):=by
 induction l with
 |nil=>simp[keys] at hf
 |cons p l ih=>
  obtain⟨h1,h2⟩:=h.cons
  by_cases hlt:p.1<k
  ·have hf' :(keys l).contains k=true:=by rw[contains_cons] at hf;simpa[show ¬k=p.1 by omega] using hf
   have:=ih h2 hf'
   have e:delF (p::l) k=p::delF l k:=by simp[delF,show ¬p.1=k by omega]
   rw[e,count_cons,if_pos hlt,keys_cons,keys_cons,vals_cons,vals_cons,this.1,this.2]
   simp
  ·have hp:k=p.1:=by
    rw[contains_cons] at hf
    rcases Bool.or_eq_true _ _ ▸ hf with h' | h'
    ·simpa using h'
    ·have hm:k∈keys l:=by simpa using h'
     obtain⟨q,hq,e⟩:=List.mem_map.1 hm
     have:=h1 q hq;omega
   have hg:∀q∈l,k<q.1:=fun q hq=>by rw[hp];exact h1 q hq
   obtain⟨_,_,f3⟩:=filter_gt hg
   have e:delF (p::l) k=l:=by rw[delF,List.filter_cons_of_neg (by simp[hp]),f3]
   rw[e,count_cons,countP_gt hg,if_neg hlt]
   simp[keys_cons,vals_cons]

theorem del_none {l:PL} {k:Int} (hf:(keys l).contains k=false):delF l k=l:=by
 rw[delF,List.filter_eq_self]
 intro q hq
 simp only[ne_eq,decide_not,Bool.not_eq_eq_eq_not,Bool.not_true,decide_eq_false_iff_not]
 intro e
 have:k∈keys l:=List.mem_map.2 ⟨q,hq,e⟩
 rw[Bool.eq_false_iff] at hf
 exact hf (by simpa using this)

theorem get_keys {l:PL} (h:Asc l) (k:Int):(if (keys l).contains k then ((vals l).getD ((keys l).countP (fun x=>decide (x<k))) 0,true) else (0,false))=getP l k:=by
 induction l with
 |nil=>simp[keys,getP]
 |cons p l ih=>
  obtain⟨h1,h2⟩:=h.cons
  have:=ih h2
  rw[contains_cons,count_cons,getP,vals_cons]
  by_cases hlt:p.1<k
  ·rw[if_neg (show ¬p.1=k by omega),if_pos hlt, ← this]
   simp[show ¬k=p.1 by omega]
  ·by_cases he:p.1=k
   ·have hg:∀q∈l,k<q.1:=fun q hq=>by have:=h1 q hq;omega
    rw[countP_gt hg,if_neg hlt,if_pos he]
    simp[he.symm]
   ·have hg:∀q∈l,k<q.1:=fun q hq=>by have:=h1 q hq;omega
    rw[if_neg he, ← this,contains_gt hg]
    simp[show ¬k=p.1 by omega]

theorem putF_asc {l:PL} (h:Asc l) (k v:Int):Asc (putF l k v):=by
 show(keys (l.filter _++(k,v)::l.filter _)).Pairwise (· < ·)
 rw[keys,List.map_append,List.map_cons]
 refine List.pairwise_append.2 ⟨?_,List.pairwise_cons.2 ⟨?_, ?_⟩, ?_⟩
 ·exact List.pairwise_map.2 ((List.pairwise_map.1 h).filter _)
 ·intro a ha
  obtain⟨q,hq,rfl⟩:=List.mem_map.1 ha
  simpa using(List.mem_filter.1 hq).2
 ·exact List.pairwise_map.2 ((List.pairwise_map.1 h).filter _)
 ·intro a ha b hb
  obtain⟨q,hq,rfl⟩:=List.mem_map.1 ha
  have h1:q.1<k:=by simpa using(List.mem_filter.1 hq).2
  rcases List.mem_cons.1 hb with rfl|hb
  ·exact h1
  ·obtain⟨r,hr,rfl⟩:=List.mem_map.1 hb
   have h2:k<r.1:=by simpa using(List.mem_filter.1 hr).2
   omega
theorem delF_asc {l:PL} (h:Asc l) (k:Int):Asc (delF l k):=List.pairwise_map.2 ((List.pairwise_map.1 h).filter _)

def PairIn (p:Int × Int):Prop:=(0<=p.1/\p.1<=999)/\(-1000000000<=p.2/\p.2<=1000000000)
def MapP (l:PL):Prop:=Asc l/\∀p∈l,PairIn p

theorem okAt_iff {l:PL} {i:Nat}:okAt l i=true↔PairIn (kOf l i,vOf l i)/\(i=0∨kOf l (i-1)<kOf l i):=by
 simp[okAt,PairIn,inB,and_assoc]

theorem mapOkB_iff (l:PL):mapOkB l=true↔MapP l:=by
 constructor
 ·intro h
  have hat:∀i,i<l.length->okAt l i=true:=fun i hi=>mapOkB_at h hi
  have hlt:∀j,j<l.length->∀i,i<j->kOf l i<kOf l j:=by
   intro j
   induction j with
   |zero=>intro _ i hi;omega
   |succ j ih=>
    intro hj i hi
    have h1:=(okAt_iff.1 (hat (j+1) hj)).2
    have h2:kOf l j<kOf l (j+1):=by simpa using h1
    by_cases e:i=j
    ·subst e;exact h2
    ·have:=ih (by omega) i (by omega);omega
  have hk:∀i (hi:i<l.length),l[i]=(kOf l i,vOf l i):=fun i hi=>by simp[kOf,vOf,List.getD,hi]
  refine⟨?_, ?_⟩
  ·refine List.pairwise_map.2 (List.pairwise_iff_getElem.2 (fun i j hi hj hij=> ?_))
   rw[hk i hi,hk j hj]
   exact hlt j hj i hij
  ·intro p hp
   obtain⟨i,hi,rfl⟩:=List.getElem_of_mem hp
   rw[hk i hi]
   exact(okAt_iff.1 (hat i hi)).1
 ·rintro⟨h1,h2⟩
  have hk:∀i (hi:i<l.length),l[i]=(kOf l i,vOf l i):=fun i hi=>by simp[kOf,vOf,List.getD,hi]
  refine mapOkB_true (fun i hi=>okAt_iff.2 ⟨?_, ?_⟩)
  ·rw[←hk i hi];exact h2 _ (List.getElem_mem hi)
  ·by_cases h0:i=0
   ·exact Or.inl h0
   ·right
    have:=List.pairwise_iff_getElem.1 (List.pairwise_map.1 h1) (i-1) i (by omega) hi (by omega)
    rw[hk i hi,hk (i-1) (by omega)] at this
    exact this

def clampI (x:Int):Int:=if x< -1000000000 then -1000000000 else if 1000000000<x then 1000000000 else x
theorem clampI_in (x:Int): -1000000000<=clampI x/\clampI x<=1000000000:=by unfold clampI;split<;>(try split)<;>omega

def doP (l:PL) (m:Int × Int × Int):PL:=
 if m.1=1 then putF l m.2.1 m.2.2 else if m.1=2 then delF l m.2.1 else if m.1=3 then putF l m.2.1 (clampI ((getP l m.2.1).1+m.2.2)) else l
def doL (l:PL) (m:Int × Int × Int):PL:=if mapOkB l=true/\msgOkB m.1 m.2.1 m.2.2=true then doP l m else l
def allL (l:PL) (ms:List (Int × Int × Int)):PL:=ms.foldl doL l

theorem putF_mapP {l:PL} (h:MapP l) {k v:Int} (hk:0<=k/\k<=999) (hv: -1000000000<=v/\v<=1000000000):MapP (putF l k v):=by
 refine⟨putF_asc h.1 k v,fun p hp=> ?_⟩
 rcases List.mem_append.1 hp with h1|h1
 ·exact h.2 p (List.mem_filter.1 h1).1
 ·rcases List.mem_cons.1 h1 with rfl|h2
  ·exact⟨hk,hv⟩
  ·exact h.2 p (List.mem_filter.1 h2).1
theorem delF_mapP {l:PL} (h:MapP l) (k:Int):MapP (delF l k):=⟨delF_asc h.1 k,fun p hp=>h.2 p (List.mem_filter.1 hp).1⟩
theorem putF_length (l:PL) (k v:Int):(putF l k v).length<=l.length+1:=by
 have h:∀(l:PL),(l.filter (fun p=>decide (p.1<k))).length+(l.filter (fun p=>decide (k<p.1))).length<=l.length:=by
  intro l
  induction l with
  |nil=>simp
  |cons p l ih=>
   by_cases h1:p.1<k
   ·have h2:¬k<p.1:=by omega
    simp[h1,h2];omega
   ·by_cases h2:k<p.1
    ·simp[h1,h2];omega
    ·simp[h1,h2];omega
 have:=h l
 simp[putF];omega
theorem delF_length (l:PL) (k:Int):(delF l k).length<=l.length:=List.length_filter_le _ _

theorem msgOkB_in {o k v:Int} (h:msgOkB o k v=true):(1<=o/\o<=4)/\(0<=k/\k<=999)/\(-1000000000<=v/\v<=1000000000):=by
 simp only[msgOkB,Bool.and_eq_true,inB_iff] at h
 exact⟨h.1,h.2.1,h.2.2.1⟩

theorem doP_mapP {l:PL} (h:MapP l) {m:Int × Int × Int} (hm:msgOkB m.1 m.2.1 m.2.2=true):MapP (doP l m):=by
 obtain⟨_,h2,h3⟩:=msgOkB_in hm
 unfold doP
 split
 ·exact putF_mapP h h2 h3
 ·split
  ·exact delF_mapP h _
  ·split
   ·exact putF_mapP h h2 (clampI_in _)
   ·exact h
theorem doP_length (l:PL) (m:Int × Int × Int):(doP l m).length<=l.length+1:=by
 unfold doP
 split
 ·exact putF_length _ _ _
 ·split
  ·have:=delF_length l m.2.1;omega
  ·split
   ·exact putF_length _ _ _
   ·omega
theorem doL_length (l:PL) (m:Int × Int × Int):(doL l m).length<=l.length+1:=by
 unfold doL
 split
 ·exact doP_length _ _
 ·omega
theorem allL_length (l:PL) (ms:List (Int × Int × Int)):(allL l ms).length<=l.length+ms.length:=by
 induction ms generalizing l with
 |nil=>simp[allL]
 |cons m ms ih=>
  have h1:=ih (doL l m)
  have h2:=doL_length l m
  simp only[allL,List.foldl_cons,List.length_cons] at *
  omega
theorem doL_of_not {l:PL} (h:mapOkB l=false) (m:Int × Int × Int):doL l m=l:=by simp[doL,h]
theorem allL_of_not {l:PL} (h:mapOkB l=false) (ms:List (Int × Int × Int)):allL l ms=l:=by
 induction ms with
 |nil=>rfl
 |cons m ms ih=>rw[allL,List.foldl_cons,doL_of_not h];exact ih
theorem doL_mapP {l:PL} (h:MapP l) (m:Int × Int × Int):MapP (doL l m):=by
 unfold doL
 split
 ·exact doP_mapP h (by simp_all)
 ·exact h
theorem allL_mapP {l:PL} (h:MapP l) (ms:List (Int × Int × Int)):MapP (allL l ms):=by
 induction ms generalizing l with
 |nil=>exact h
 |cons m ms ih=>exact ih (doL_mapP h m)
end
section
open Go.RowKit

abbrev ML:=List (Int × Int × Int)
def mO (l:ML) (i:Nat):Int:=(l.getD i (0,0,0)).1
def mK (l:ML) (i:Nat):Int:=(l.getD i (0,0,0)).2.1
def mV (l:ML) (i:Nat):Int:=(l.getD i (0,0,0)).2.2
theorem ml_at (l:ML) (i:Nat) (h:i<l.length):l[i]=(mO l i,mK l i,mV l i):=by simp[mO,mK,mV,List.getD,h]
theorem ml_ext {l1 l2:ML} (hl:l1.length=l2.length) (h:∀i,i<l1.length->mO l1 i=mO l2 i/\mK l1 i=mK l2 i/\mV l1 i=mV l2 i):l1=l2:=by
 apply List.ext_getElem hl
 intro i h1 h2
 rw[ml_at l1 i h1,ml_at l2 i h2,(h i h1).1,(h i h1).2.1,(h i h1).2.2]
theorem take_succM (l:ML) (k:Nat) (hk:k<l.length):l.take (k+1)=l.take k++[(mO l k,mK l k,mV l k)]:=by
 rw[List.take_succ_eq_append_getElem hk,ml_at l k hk]

def flatM (l:ML):List Value:=l.flatMap fun m=>[.int .i64 m.1, .int .i64 m.2.1, .int .i64 m.2.2]
theorem flatM_cons (m:Int × Int × Int) (l:ML):flatM (m::l)= .int .i64 m.1:: .int .i64 m.2.1:: .int .i64 m.2.2::flatM l:=rfl
theorem flatM_append (l m:ML):flatM (l++m)=flatM l++flatM m:=by simp[flatM,List.flatMap_append]
theorem flatM_length (l:ML):(flatM l).length=l.length*3:=by
 induction l with
 |nil=>rfl
 |cons a l ih=>rw[flatM_cons];simp only[List.length_cons];omega
theorem flatM_at (l:ML):∀i,i<l.length->(flatM l)[i*3]? =some (.int .i64 (mO l i))/\(flatM l)[i*3+1]? =some (.int .i64 (mK l i))/\(flatM l)[i*3+2]? =some (.int .i64 (mV l i)):=by
 induction l with
 |nil=>intro i h;simp at h
 |cons a l ih=>
  intro i h
  cases i with
  |zero=>simp[flatM_cons,mO,mK,mV]
  |succ i=>
   have:=ih i (by simpa using h)
   have e1:(i+1)*3=i*3+1+1+1:=by omega
   have e2:(i+1)*3+1=(i*3+1)+1+1+1:=by omega
   have e3:(i+1)*3+2=(i*3+2)+1+1+1:=by omega
   rw[e3,e2,e1,flatM_cons]
   simpa[mO,mK,mV] using this
theorem flatM_set (l:ML) (a b c:Int):∀i,i<l.length->(((flatM l).set (i*3) (.int .i64 a)).set (i*3+1) (.int .i64 b)).set (i*3+2) (.int .i64 c)=flatM (l.set i (a,b,c)):=by
 induction l with
 |nil=>intro i h;simp at h
 |cons p l ih=>
  intro i h
  cases i with
  |zero=>simp[flatM_cons]
  |succ i=>
   have:=ih i (by simpa using h)
   rw[flatM_cons,List.set_cons_succ,flatM_cons,show(i+1)*3+2=(i*3+2)+1+1+1 by omega,show(i+1)*3=i*3+1+1+1 by omega]
   simp only[List.set_cons_succ]
   rw[this]

theorem Row.msgs {w:World} {v:Value} {l:ML} (h:Row w v l.length (flatM l)) :
  ∃(a:Option Addr) (b off cap:Nat),v= .slice a l.length cap/\l.length<=cap/\cap<=maxLen/\(0<l.length->a=some ⟨b,off,none⟩)∧
   (∀i,i<l.length->w.cell? ⟨b,off+i*3,none⟩=some (.int .i64 (mO l i)))/\(∀i,i<l.length->w.cell? ⟨b,off+i*3+1,none⟩=some (.int .i64 (mK l i)))/\(∀i,i<l.length->w.cell? ⟨b,off+i*3+2,none⟩=some (.int .i64 (mV l i))):=by
 obtain⟨a,b,off,cap,h1,h2,h3,h4,h5,_⟩:=h
 exact⟨a,b,off,cap,h1,h2,h3,h4,fun i hi=>h5 _ _ (flatM_at l i hi).1,fun i hi=>h5 _ _ (flatM_at l i hi).2.1,fun i hi=>h5 _ _ (flatM_at l i hi).2.2⟩

theorem szMsgS_any (a:Option Addr) (n cap:Nat) (left:Int) (hn:n<=maxLen) (hl:0<=left) (hl2:left<=1048576) (w:World) :
  Calls Tryz.prog 41 #[.slice a n cap, .int .i64 left] w fun e w' =>e= .returned (.int .i64 (if (n:Int)<=left then left-n else -1))/\w' =w:=by
 unfold maxLen at hn
 by_cases h:(n:Int)<=left
 ·go_enter Tryz.func41,Tryz.ntmps41
  go_wp2
  go_ret
  exact⟨rfl,rfl⟩
 ·go_enter Tryz.func41,Tryz.ntmps41
  go_wp2
  go_ret
  exact⟨rfl,rfl⟩

def eqMsgB (a b c a' b' c' :Int):Bool:=decide (a=a' ∧b=b' ∧c=c')
theorem eqMsgB_true {a b c d e f:Int} (h:eqMsgB a b c d e f=true):a=d/\b=e/\c=f:=by simpa[eqMsgB] using h
theorem ne_of_eqMsgB {l1 l2:ML} {k:Nat} (h:eqMsgB (mO l1 k) (mK l1 k) (mV l1 k) (mO l2 k) (mK l2 k) (mV l2 k)=false):l1≠l2:=by
 intro e;subst e;simp[eqMsgB] at h

theorem eqMsg_any (a b c d e f:Int) (w:World) :
  Calls Tryz.prog 117 #[.agg #[.int .i64 a, .int .i64 b, .int .i64 c], .agg #[.int .i64 d, .int .i64 e, .int .i64 f]] w fun r w' =>r= .returned (.bool (eqMsgB a b c d e f))/\Below w.heap.size w w' :=by
 go_enter Tryz.func117,Tryz.ntmps117
 go_wp2
 all_goals (go_ret;refine⟨ret_bool ?_,((Below.refl _ _).alloc (Nat.le_refl _) _).alloc (by simp) _⟩;simp_all[eqMsgB])

theorem eqMsgS_any (v1 v2:Value) (l1 l2:ML) (w:World) (h1:Row w v1 l1.length (flatM l1)) (h2:Row w v2 l2.length (flatM l2)) :
  Calls Tryz.prog 58 #[v1,v2] w fun e w' =>e= .returned (.bool (decide (l1=l2)))/\Below w.heap.size w w' :=by
 obtain⟨a,b,off,cap,rfl,hcap,hmax,ha,ho,hk,hv⟩:=h1.msgs
 obtain⟨a2,b2,off2,cap2,rfl,hcap2,hmax2,ha2,ho2,hk2,hv2⟩:=h2.msgs
 unfold maxLen at hmax hmax2
 by_cases hl:l1.length=l2.length
 ·have hne:((l1.length:Int) != (l2.length:Int))=false:=by rw[bne_eq_false_iff_eq];omega
  have HL:Hid (l1.length=l2.length):=hl
  have hl2:l1.length<=l2.length:=by omega
  clear hl
  go_enter Tryz.func58,Tryz.ntmps58
  go_wp2
  go_loopw [5] (fun i wr=>∃k:Nat,k<=l1.length/\i= .int .i64 k/\(∀i,i<k->mO l1 i=mO l2 i/\mK l1 i=mK l2 i/\mV l1 i=mV l2 i)/\Below w.heap.size w wr)
   (fun i _=>l1.length-(intOf i).toNat)
  case atStart=>exact⟨0,Nat.zero_le _,rfl,fun i hi=>absurd hi (Nat.not_lt_zero _),Below.refl _ _⟩
  case round=>
   obtain⟨k,hkl,rfl,hall,hb⟩:=hrel
   have ALL:Hid (∀i,i<k->mO l1 i=mO l2 i/\mK l1 i=mK l2 i/\mV l1 i=mV l2 i):=hall
   clear hall
   by_cases hlt:k<l1.length
   ·have hal:=ha (by omega)
    subst hal
    have hal2:=ha2 (by omega)
    subst hal2
    have hlt2:k<l2.length:=by omega
    have d0:=(hb.cell (by exact cell_lt (ho k hlt))).trans (ho k hlt)
    have d1:=(hb.cell (by exact cell_lt (hk k hlt))).trans (hk k hlt)
    have d2:=(hb.cell (by exact cell_lt (hv k hlt))).trans (hv k hlt)
    have d3:=(hb.cell (by exact cell_lt (ho2 k hlt2))).trans (ho2 k hlt2)
    have d4:=(hb.cell (by exact cell_lt (hk2 k hlt2))).trans (hk2 k hlt2)
    have d5:=(hb.cell (by exact cell_lt (hv2 k hlt2))).trans (hv2 k hlt2)
    clear ho hk hv ha ho2 hk2 hv2 ha2
    go_wp2_with fail
    cases hq:eqMsgB (mO l1 k) (mK l1 k) (mV l1 k) (mO l2 k) (mK l2 k) (mV l2 k)
    ·have NE:Hid (decide (l1=l2)=false):=decide_eq_false (ne_of_eqMsgB hq)
     go_region_with (go_at_call 117;refine(eqMsg_any _ _ _ _ _ _ _).mono ?_;rintro e w1 ⟨rfl,hb1⟩)
     all_goals
      go_wp2
      go_ret
      exact⟨ret_bool NE.out.symm,hb.drew.trans (hb1.mono hb.size)⟩
    ·have EQ:Hid (mO l1 k=mO l2 k/\mK l1 k=mK l2 k/\mV l1 k=mV l2 k):=eqMsgB_true hq
     go_region_with (go_at_call 117;refine(eqMsg_any _ _ _ _ _ _ _).mono ?_;rintro e w1 ⟨rfl,hb1⟩)
     all_goals
      go_wp2
      go_roundw
      case rel=>exact⟨k+1,by omega,by go_num,fun i hi=>if h:i<k then ALL.out i h else by rw[show i=k by omega];exact EQ.out,hb.drew.trans (hb1.mono hb.size)⟩
      case measure=>simp[intOf];omega
   ·go_wp2
    go_ret
    refine⟨ret_bool ?_,hb⟩
    symm
    rw[decide_eq_true_iff]
    exact ml_ext HL.out (fun i hi=>ALL.out i (by omega))
 ·have hne:((l1.length:Int) != (l2.length:Int))=true:=by rw[bne_iff_ne];omega
  go_enter Tryz.func58,Tryz.ntmps58
  go_wp2
  go_ret
  refine⟨ret_bool ?_,Below.refl _ _⟩
  symm
  rw[decide_eq_false_iff_not]
  intro h;exact hl (by rw[h])

theorem Tryz.info38:(Tryz.prog.info? 38).map (fun i=>(i.zero,i.size,i.bytes))=some (some (.agg #[.int .i64 0, .int .i64 0, .int .i64 0]),3,24):=by kernel_rfl

def filledM (l:ML) (k:Nat):ML:=l.take k++List.replicate (l.length-k) (0,0,0)
theorem filledM_length (l:ML) (k:Nat) (hk:k<=l.length):(filledM l k).length=l.length:=by simp[filledM];omega
theorem filledM_full (l:ML):filledM l l.length=l:=by simp[filledM]
theorem flatM_zero (n:Nat):flatM (List.replicate n (0,0,0))=List.replicate (n*3) (.int .i64 0):=by
 induction n with
 |zero=>rfl
 |succ n ih=>rw[List.replicate_succ,flatM_cons,ih,show(n+1)*3=n*3+1+1+1 by omega];simp[List.replicate_succ]
theorem filledM_step (l:ML) (k:Nat) (hk:k<l.length):(filledM l k).set k (mO l k,mK l k,mV l k)=filledM l (k+1):=by
 obtain⟨m,hm⟩:∃m,l.length-k=m+1:=⟨l.length-k-1,by omega⟩
 rw[filledM,filledM,take_succM l k hk,hm,show l.length-(k+1)=m by omega,List.replicate_succ,List.set_append_right _ _ (by simp;omega)]
 simp[show min k l.length=k by omega]

theorem toMsgS_any (v:Value) (l:ML) (w:World) (hr:Row w v l.length (flatM l)) (hn:l.length<=1048576) :
  Calls Tryz.prog 49 #[v] w fun e w' =>∃v',e= .returned v' ∧w'.ownsRow w.heap.size 38 3 v' l.length (flatM l)/\Below w.heap.size w w' :=by
 obtain⟨a,b,off,cap,rfl,hcap,hmax,ha,ho,hk,hv⟩:=hr.msgs
 obtain⟨i0,hi,hz0,hz1,hz2⟩:=info_parts Tryz.info38
 unfold maxLen at hmax
 go_enter Tryz.func49,Tryz.ntmps49
 go_wp2_with (at_make;refine wpList_make_full _ rfl _ _ 33 rfl w.heap.size 38 i0 _ 3 Tryz.underlying33 hi hz0 hz1 .i64 .i64 _ _ l.length rfl rfl rfl rfl ?c1 ?c2 ?c3 ?_)
 case c1=>rw[hz2];omega
 case c2=>unfold maxLen;omega
 case c3=>exact Nat.le_refl _
 intro w0 hown0 hgrow0
 have hb0:Below w.heap.size w w0:=(Below.refl _ _).grown hgrow0 (Nat.le_refl _) (fun k hk=>by cases hk)
 clear hgrow0
 go_wp2
 go_loopw [4] (fun i wr=>∃k:Nat,k<=l.length/\i= .int .i64 k/\wr.ownsRow w.heap.size 38 3 (.slice (some ⟨w.heap.size,0,none⟩) l.length l.length) l.length (flatM (filledM l k))/\Below w.heap.size w wr)
  (fun i _=>l.length-(intOf i).toNat)
 case atStart=>exact⟨0,Nat.zero_le _,rfl,by rw[madeCells_all _ (.int .i64 0) (by decide) (fun i hi=>by match i,hi with|0,_=>rfl|1,_=>rfl|2,_=>rfl)] at hown0;rw[show filledM l 0=List.replicate l.length (0,0,0) by simp[filledM],flatM_zero];exact hown0,hb0⟩
 case round=>
  obtain⟨k,hkl,rfl,hown,hb⟩:=hrel
  clear hown0 hb0
  by_cases hlt:k<l.length
  ·have hal:=ha (by omega)
   subst hal
   have d0:=(hb.cell (by exact cell_lt (ho k hlt))).trans (ho k hlt)
   have d1:=(hb.cell (by exact cell_lt (hk k hlt))).trans (hk k hlt)
   have d2:=(hb.cell (by exact cell_lt (hv k hlt))).trans (hv k hlt)
   clear ho hk hv ha
   go_wp2_with fail
   refine(toMsg_any _ _ _ _).mono ?_
   rintro e w1 ⟨rfl,hb1⟩
   have own1:=owns_below hown hb1
   have hfl:(filledM l k).length=l.length:=filledM_length l k hkl
   have hat:=flatM_at (filledM l k) k (by omega)
   have e0:=(own1.cellAt (k*3) (by omega)).trans hat.1
   have e1:=(own1.cellAt (k*3+1) (by omega)).trans hat.2.1
   have e2:=(own1.cellAt (k*3+2) (by omega)).trans hat.2.2
   have f0:=own1.frozenAt (k*3)
   have f1:=own1.frozenAt (k*3+1)
   have f2:=own1.frozenAt (k*3+2)
   have st:=(own1.stored (k*3) (.int .i64 (mO l k))).1
   have st2:=(st.stored (k*3+1) (.int .i64 (mK l k))).1
   have st3:=(st2.stored (k*3+2) (.int .i64 (mV l k))).1
   rw[flatM_set _ _ _ _ k (by omega),filledM_step l k hlt] at st3
   have hb2:Below w.heap.size w w1:=hb.trans (hb1.mono hb.size)
   generalize mO (filledM l k) k=x0 at *
   generalize mK (filledM l k) k=x1 at *
   generalize mV (filledM l k) k=x2 at *
   have ST:Hid _:=st3
   clear st st2 st3 hown hb1 d0 d1 d2 own1 hat hfl hr
   go_wp2
   go_roundw
   case rel=>exact⟨k+1,by omega,by go_num,ST.out,((hb2.setCell (Nat.le_refl _) _).setCell (Nat.le_refl _) _).setCell (Nat.le_refl _) _⟩
   case measure=>simp[intOf];omega
  ·go_wp2
   go_ret
   have hkk:k=l.length:=by omega
   subst hkk
   rw[filledM_full] at hown
   exact⟨_,rfl,hown,hb⟩
end
end Go.Proofs.YtcmofojechfccaaGreat
