/-
  MapGet as a plain function.
  Maps as ascending lists of pairs: putting, deleting, getting; plain mathematics.
  Lists of messages as rows of cells; the laws' own functions on them.
  Trees of messages as plain data, and what it is that a struct's value leads to one.
  What chapter 2 says of trees, as plain functions.
-/
import Derived.Test.YtebglpllkjgjbaaGreatOfBuild1
import Derived.Test.YtebglpllkjgjbaaGreatOfBuild2
namespace Go.Proofs.YtebglpllkjgjbaaGreat
set_option maxRecDepth 100000
set_option maxHeartbeats 8000000
section
def AA:List (Int × Int)->Int->Int × Bool
 |[],_=>(0,false)
 |p::l,k=>if p.1=k then (p.2,true) else AA l k

theorem V9 {l:List (Int × Int)} {x:Int}:∀ {i:Nat},i<l.length->(∀j,j<i->kOf l j≠x)->kOf l i=x->AA l x=(vOf l i,true):=by
 induction l with
 |nil=>intro i h;simp at h
 |cons p l ih=>
  intro i h hall hx
  cases i with
  |zero=>
   simp only[kOf,List.getD_cons_zero] at hx
   simp[AA,hx,vOf]
  |succ i=>
   have h0:=hall 0 (by omega)
   simp only[kOf,List.getD_cons_zero] at h0
   rw[AA,if_neg h0,ih (by simpa using h) (fun j hj=>by have:=hall (j+1) (by omega);simpa[kOf] using this) (by simpa[kOf] using hx)]
   simp[vOf]
theorem U7 {l:List (Int × Int)} {x:Int} (hall:∀j,j<l.length->kOf l j≠x):AA l x=(0,false):=by
 induction l with
 |nil=>rfl
 |cons p l ih=>
  have h0:=hall 0 (by simp)
  simp only[kOf,List.getD_cons_zero] at h0
  rw[AA,if_neg h0]
  exact ih (fun j hj=>by have:=hall (j+1) (by simpa using hj);simpa[kOf] using this)
end
section
abbrev PL:=List (Int × Int)
def Bo (l:PL):List Int:=l.map (·.1)
def Fg (l:PL):List Int:=l.map (·.2)
theorem Dd (l:PL):(Bo l).length=l.length:=by simp[Bo]
theorem EO (l:PL):(Fg l).length=l.length:=by simp[Fg]

def Asc (l:PL):Prop:=(Bo l).Pairwise (· < ·)
theorem Asc.le {l:PL} (h:Asc l):(Bo l).Pairwise (· <= ·):=h.imp (fun h=>Int.le_of_lt h)
theorem Asc.cons {p:Int × Int} {l:PL} (h:Asc (p::l)):(∀q∈l,p.1<q.1)/\Asc l:=by
 have:=List.pairwise_cons.1 (show(p.1::Bo l).Pairwise (· < ·) from h)
 exact⟨fun q hq=>this.1 q.1 (List.mem_map_of_mem hq),this.2⟩
def Cc (l:PL) (k v:Int):PL:=l.filter (fun p=>decide (p.1<k))++(k,v)::l.filter (fun p=>decide (k<p.1))
def Dl (l:PL) (k:Int):PL:=l.filter (fun p=>decide (p.1≠k))

theorem Fm {l:PL} {k:Int} (h:∀q∈l,k<q.1):l.filter (fun p=>decide (p.1<k))=[]/\l.filter (fun p=>decide (k<p.1))=l/\l.filter (fun p=>decide (p.1≠k))=l:=by
 refine⟨List.filter_eq_nil_iff.2 (fun q hq=> ?_),List.filter_eq_self.2 (fun q hq=> ?_),List.filter_eq_self.2 (fun q hq=> ?_)⟩
 ·have:=h q hq;simp;omega
 ·have:=h q hq;simp;omega
 ·have:=h q hq;simp;omega
theorem Is {l:PL} {k:Int} (h:∀q∈l,k<q.1):(Bo l).countP (fun x=>decide (x<k))=0:=by
 rw[List.countP_eq_zero]
 intro a ha;obtain⟨q,hq,rfl⟩:=List.mem_map.1 ha
 have:=h q hq;simp;omega
theorem Qy {l:PL} {k:Int} (h:∀q∈l,k<q.1):(Bo l).contains k=false:=by
 rw[Bool.eq_false_iff]
 intro hc;have hm:k∈Bo l:=by simpa using hc
 obtain⟨q,hq,e⟩:=List.mem_map.1 hm
 have:=h q hq;omega

theorem Dq (p:Int × Int) (l:PL):Bo (p::l)=p.1::Bo l:=rfl
theorem DH (p:Int × Int) (l:PL):Fg (p::l)=p.2::Fg l:=rfl

theorem EB (p:Int × Int) (l:PL) (k:Int):(Bo (p::l)).countP (fun x=>decide (x<k))=(Bo l).countP (fun x=>decide (x<k))+if p.1<k then 1 else 0:=by
 rw[Dq,List.countP_cons];simp
theorem contains_cons (p:Int × Int) (l:PL) (k:Int):(Bo (p::l)).contains k=(decide (k=p.1)||(Bo l).contains k):=by
 rw[Dq,List.contains_cons]
 congr 1

theorem MY {l:PL} (h:Asc l) {k v:Int} (hf:(Bo l).contains k=true):Bo (Cc l k v)=Bo l/\Fg (Cc l k v)=(Fg l).set ((Bo l).countP (fun x=>decide (x<k))) v:=by
 induction l with
 |nil=>simp[Bo] at hf
 |cons p l ih=>
  obtain⟨h1,h2⟩:=h.cons
  by_cases hlt:p.1<k
  ·have hf' :(Bo l).contains k=true:=by rw[contains_cons] at hf;simpa[show ¬k=p.1 by omega] using hf
   have:=ih h2 hf'
   have e:Cc (p::l) k v=p::Cc l k v:=by simp[Cc,hlt,show ¬k<p.1 by omega]
   rw[e,EB,if_pos hlt,Dq,Dq,DH,DH,this.1,this.2]
   simp
  ·have hp:k=p.1:=by
    rw[contains_cons] at hf
    rcases Bool.or_eq_true _ _ ▸ hf with h' | h'
    ·simpa using h'
    ·have hm:k∈Bo l:=by simpa using h'
     obtain⟨q,hq,e⟩:=List.mem_map.1 hm
     have:=h1 q hq;omega
   have hg:∀q∈l,k<q.1:=fun q hq=>by rw[hp];exact h1 q hq
   obtain⟨f1,f2,_⟩:=Fm hg
   have e:Cc (p::l) k v=(k,v)::l:=by simp[Cc,hlt,show ¬k<p.1 by omega,f1,f2]
   rw[e,EB,Is hg,if_neg hlt]
   simp[Dq,DH,hp]

theorem Pc {l:PL} (h:Asc l) {k v:Int} (hf:(Bo l).contains k=false) :
  Bo (Cc l k v)=(Bo l).take ((Bo l).countP (fun x=>decide (x<k)))++k::(Bo l).drop ((Bo l).countP (fun x=>decide (x<k)))∧
  Fg (Cc l k v)=(Fg l).take ((Bo l).countP (fun x=>decide (x<k)))++v::(Fg l).drop ((Bo l).countP (fun x=>decide (x<k))):=by
 induction l with
 |nil=>simp[Bo,Fg,Cc]
 |cons p l ih=>
  obtain⟨h1,h2⟩:=h.cons
  rw[contains_cons,Bool.or_eq_false_iff] at hf
  have hne:¬k=p.1:=by simpa using hf.1
  by_cases hlt:p.1<k
  ·have:=ih h2 hf.2
   have e:Cc (p::l) k v=p::Cc l k v:=by simp[Cc,hlt,show ¬k<p.1 by omega]
   rw[e,EB,if_pos hlt,Dq,Dq,DH,DH,this.1,this.2]
   simp
  ·have hg:∀q∈l,k<q.1:=fun q hq=>by have:=h1 q hq;omega
   obtain⟨f1,f2,_⟩:=Fm hg
   have e:Cc (p::l) k v=(k,v)::p::l:=by simp[Cc,hlt,show k<p.1 by omega,f1,f2]
   rw[e,EB,Is hg,if_neg hlt]
   simp[Dq,DH]

theorem Nb {l:PL} (h:Asc l) {k:Int} (hf:(Bo l).contains k=true) :
  Bo (Dl l k)=(Bo l).take ((Bo l).countP (fun x=>decide (x<k)))++(Bo l).drop ((Bo l).countP (fun x=>decide (x<k))+1)∧
  Fg (Dl l k)=(Fg l).take ((Bo l).countP (fun x=>decide (x<k)))++(Fg l).drop ((Bo l).countP (fun x=>decide (x<k))+1):=by
 induction l with
 |nil=>simp[Bo] at hf
 |cons p l ih=>
  obtain⟨h1,h2⟩:=h.cons
  by_cases hlt:p.1<k
  ·have hf' :(Bo l).contains k=true:=by rw[contains_cons] at hf;simpa[show ¬k=p.1 by omega] using hf
   have:=ih h2 hf'
   have e:Dl (p::l) k=p::Dl l k:=by simp[Dl,show ¬p.1=k by omega]
   rw[e,EB,if_pos hlt,Dq,Dq,DH,DH,this.1,this.2]
   simp
  ·have hp:k=p.1:=by
    rw[contains_cons] at hf
    rcases Bool.or_eq_true _ _ ▸ hf with h' | h'
    ·simpa using h'
    ·have hm:k∈Bo l:=by simpa using h'
     obtain⟨q,hq,e⟩:=List.mem_map.1 hm
     have:=h1 q hq;omega
   have hg:∀q∈l,k<q.1:=fun q hq=>by rw[hp];exact h1 q hq
   obtain⟨_,_,f3⟩:=Fm hg
   have e:Dl (p::l) k=l:=by rw[Dl,List.filter_cons_of_neg (by simp[hp]),f3]
   rw[e,EB,Is hg,if_neg hlt]
   simp[Dq,DH]

theorem Xc {l:PL} {k:Int} (hf:(Bo l).contains k=false):Dl l k=l:=by
 rw[Dl,List.filter_eq_self]
 intro q hq;simp only[ne_eq,decide_not,Bool.not_eq_eq_eq_not,Bool.not_true,decide_eq_false_iff_not]
 intro e;have:k∈Bo l:=List.mem_map.2 ⟨q,hq,e⟩
 rw[Bool.eq_false_iff] at hf
 exact hf (by simpa using this)

theorem Wi {l:PL} (h:Asc l) (k:Int):(if (Bo l).contains k then ((Fg l).getD ((Bo l).countP (fun x=>decide (x<k))) 0,true) else (0,false))=AA l k:=by
 induction l with
 |nil=>simp[Bo,AA]
 |cons p l ih=>
  obtain⟨h1,h2⟩:=h.cons
  have:=ih h2
  rw[contains_cons,EB,AA,DH]
  by_cases hlt:p.1<k
  ·rw[if_neg (show ¬p.1=k by omega),if_pos hlt, ← this]
   simp[show ¬k=p.1 by omega]
  ·by_cases he:p.1=k
   ·have hg:∀q∈l,k<q.1:=fun q hq=>by have:=h1 q hq;omega
    rw[Is hg,if_neg hlt,if_pos he]
    simp[he.symm]
   ·have hg:∀q∈l,k<q.1:=fun q hq=>by have:=h1 q hq;omega
    rw[if_neg he, ← this,Qy hg]
    simp[show ¬k=p.1 by omega]

theorem Me {l:PL} (h:Asc l) (k v:Int):Asc (Cc l k v):=by
 show(Bo (l.filter _++(k,v)::l.filter _)).Pairwise (· < ·)
 rw[Bo,List.map_append,List.map_cons]
 refine List.pairwise_append.2 ⟨?_,List.pairwise_cons.2 ⟨?_, ?_⟩, ?_⟩
 ·exact List.pairwise_map.2 ((List.pairwise_map.1 h).filter _)
 ·intro a ha;obtain⟨q,hq,rfl⟩:=List.mem_map.1 ha
  simpa using(List.mem_filter.1 hq).2
 ·exact List.pairwise_map.2 ((List.pairwise_map.1 h).filter _)
 ·intro a ha b hb;obtain⟨q,hq,rfl⟩:=List.mem_map.1 ha
  have h1:q.1<k:=by simpa using(List.mem_filter.1 hq).2
  rcases List.mem_cons.1 hb with rfl|hb
  ·exact h1
  ·obtain⟨r,hr,rfl⟩:=List.mem_map.1 hb
   have h2:k<r.1:=by simpa using(List.mem_filter.1 hr).2
   omega
theorem V3 {l:PL} (h:Asc l) (k:Int):Asc (Dl l k):=List.pairwise_map.2 ((List.pairwise_map.1 h).filter _)

def PZ (p:Int × Int):Prop:=(0<=p.1/\p.1<=999)/\(-1000000000<=p.2/\p.2<=1000000000)
def CY (l:PL):Prop:=Asc l/\∀p∈l,PZ p

theorem LE {l:PL} {i:Nat}:FK l i=true↔PZ (kOf l i,vOf l i)/\(i=0∨kOf l (i-1)<kOf l i):=by
 simp[FK,PZ,inB,and_assoc]

theorem Ez (l:PL):Bf l=true↔CY l:=by
 constructor
 ·intro h;have hat:∀i,i<l.length->FK l i=true:=fun i hi=>Vi h hi
  have hlt:∀j,j<l.length->∀i,i<j->kOf l i<kOf l j:=by
   intro j;induction j with
   |zero=>intro _ i hi;omega
   |succ j ih=>
    intro hj i hi;have h1:=(LE.1 (hat (j+1) hj)).2
    have h2:kOf l j<kOf l (j+1):=by simpa using h1
    by_cases e:i=j
    ·subst e;exact h2
    ·have:=ih (by omega) i (by omega);omega
  have hk:∀i (hi:i<l.length),l[i]=(kOf l i,vOf l i):=fun i hi=>by simp[kOf,vOf,List.getD,hi]
  refine⟨?_, ?_⟩
  ·refine List.pairwise_map.2 (List.pairwise_iff_getElem.2 (fun i j hi hj hij=> ?_))
   rw[hk i hi,hk j hj]
   exact hlt j hj i hij
  ·intro p hp;obtain⟨i,hi,rfl⟩:=List.getElem_of_mem hp
   rw[hk i hi]
   exact(LE.1 (hat i hi)).1
 ·rintro⟨h1,h2⟩
  have hk:∀i (hi:i<l.length),l[i]=(kOf l i,vOf l i):=fun i hi=>by simp[kOf,vOf,List.getD,hi]
  refine Ib (fun i hi=>LE.2 ⟨?_, ?_⟩)
  ·rw[←hk i hi];exact h2 _ (List.getElem_mem hi)
  ·by_cases h0:i=0
   ·exact Or.inl h0
   ·right
    have:=List.pairwise_iff_getElem.1 (List.pairwise_map.1 h1) (i-1) i (by omega) hi (by omega)
    rw[hk i hi,hk (i-1) (by omega)] at this
    exact this

def Bh (x:Int):Int:=if x< -1000000000 then -1000000000 else if 1000000000<x then 1000000000 else x
theorem Kh (x:Int): -1000000000<=Bh x/\Bh x<=1000000000:=by unfold Bh;split<;>(try split)<;>omega

def doP (l:PL) (m:Int × Int × Int):PL:=
 if m.1=1 then Cc l m.2.1 m.2.2 else if m.1=2 then Dl l m.2.1 else if m.1=3 then Cc l m.2.1 (Bh ((AA l m.2.1).1+m.2.2)) else l
def doL (l:PL) (m:Int × Int × Int):PL:=if Bf l=true/\AO m.1 m.2.1 m.2.2=true then doP l m else l
def Cg (l:PL) (ms:List (Int × Int × Int)):PL:=ms.foldl doL l

theorem It {l:PL} (h:CY l) {k v:Int} (hk:0<=k/\k<=999) (hv: -1000000000<=v/\v<=1000000000):CY (Cc l k v):=by
 refine⟨Me h.1 k v,fun p hp=> ?_⟩
 rcases List.mem_append.1 hp with h1|h1
 ·exact h.2 p (List.mem_filter.1 h1).1
 ·rcases List.mem_cons.1 h1 with rfl|h2
  ·exact⟨hk,hv⟩
  ·exact h.2 p (List.mem_filter.1 h2).1
theorem Vr {l:PL} (h:CY l) (k:Int):CY (Dl l k):=⟨V3 h.1 k,fun p hp=>h.2 p (List.mem_filter.1 hp).1⟩
theorem Kz (l:PL) (k v:Int):(Cc l k v).length<=l.length+1:=by
 have h:∀(l:PL),(l.filter (fun p=>decide (p.1<k))).length+(l.filter (fun p=>decide (k<p.1))).length<=l.length:=by
  intro l;induction l with
  |nil=>simp
  |cons p l ih=>
   by_cases h1:p.1<k
   ·have h2:¬k<p.1:=by omega
    simp[h1,h2];omega
   ·by_cases h2:k<p.1
    ·simp[h1,h2];omega
    ·simp[h1,h2];omega
 have:=h l
 simp[Cc];omega
theorem Kq (l:PL) (k:Int):(Dl l k).length<=l.length:=List.length_filter_le _ _

theorem Dc {o k v:Int} (h:AO o k v=true):(1<=o/\o<=4)/\(0<=k/\k<=999)/\(-1000000000<=v/\v<=1000000000):=by
 simp only[AO,Bool.and_eq_true,Ew] at h
 exact⟨h.1,h.2.1,h.2.2.1⟩

theorem LD {l:PL} (h:CY l) {m:Int × Int × Int} (hm:AO m.1 m.2.1 m.2.2=true):CY (doP l m):=by
 obtain⟨_,h2,h3⟩:=Dc hm
 unfold doP;split
 ·exact It h h2 h3
 ·split
  ·exact Vr h _
  ·split
   ·exact It h h2 (Kh _)
   ·exact h
theorem MV (l:PL) (m:Int × Int × Int):(doP l m).length<=l.length+1:=by
 unfold doP;split
 ·exact Kz _ _ _
 ·split
  ·have:=Kq l m.2.1;omega
  ·split
   ·exact Kz _ _ _
   ·omega
theorem SQ (l:PL) (m:Int × Int × Int):(doL l m).length<=l.length+1:=by
 unfold doL;split
 ·exact MV _ _
 ·omega
theorem Fy (l:PL) (ms:List (Int × Int × Int)):(Cg l ms).length<=l.length+ms.length:=by
 induction ms generalizing l with
 |nil=>simp[Cg]
 |cons m ms ih=>
  have h1:=ih (doL l m)
  have h2:=SQ l m
  simp only[Cg,List.foldl_cons,List.length_cons] at *
  omega
theorem Sk {l:PL} (h:Bf l=false) (m:Int × Int × Int):doL l m=l:=by simp[doL,h]
theorem QX {l:PL} (h:Bf l=false) (ms:List (Int × Int × Int)):Cg l ms=l:=by
 induction ms with
 |nil=>rfl
 |cons m ms ih=>rw[Cg,List.foldl_cons,Sk h];exact ih
theorem Ro {l:PL} (h:CY l) (m:Int × Int × Int):CY (doL l m):=by
 unfold doL;split
 ·exact LD h (by simp_all)
 ·exact h
theorem JX {l:PL} (h:CY l) (ms:List (Int × Int × Int)):CY (Cg l ms):=by
 induction ms generalizing l with
 |nil=>exact h
 |cons m ms ih=>exact ih (Ro h m)
end
section
open Go.RowKit

abbrev ML:=List (Int × Int × Int)
def mO (l:ML) (i:Nat):Int:=(l.getD i (0,0,0)).1
def mK (l:ML) (i:Nat):Int:=(l.getD i (0,0,0)).2.1
def mV (l:ML) (i:Nat):Int:=(l.getD i (0,0,0)).2.2
theorem DW (l:ML) (i:Nat) (h:i<l.length):l[i]=(mO l i,mK l i,mV l i):=by simp[mO,mK,mV,List.getD,h]
theorem Yn {l1 l2:ML} (hl:l1.length=l2.length) (h:∀i,i<l1.length->mO l1 i=mO l2 i/\mK l1 i=mK l2 i/\mV l1 i=mV l2 i):l1=l2:=by
 apply List.ext_getElem hl
 intro i h1 h2;rw[DW l1 i h1,DW l2 i h2,(h i h1).1,(h i h1).2.1,(h i h1).2.2]
theorem DV (l:ML) (k:Nat) (hk:k<l.length):l.take (k+1)=l.take k++[(mO l k,mK l k,mV l k)]:=by
 rw[List.take_succ_eq_append_getElem hk,DW l k hk]

def Ag (l:ML):List Value:=l.flatMap fun m=>[.int .i64 m.1, .int .i64 m.2.1, .int .i64 m.2.2]
theorem EJ (m:Int × Int × Int) (l:ML):Ag (m::l)= .int .i64 m.1:: .int .i64 m.2.1:: .int .i64 m.2.2::Ag l:=rfl
theorem Cn (l m:ML):Ag (l++m)=Ag l++Ag m:=by simp[Ag,List.flatMap_append]
theorem Dz (l:ML):(Ag l).length=l.length*3:=by
 induction l with
 |nil=>rfl
 |cons a l ih=>rw[EJ];simp only[List.length_cons];omega
theorem FD (l:ML):∀i,i<l.length->(Ag l)[i*3]? =some (.int .i64 (mO l i))/\(Ag l)[i*3+1]? =some (.int .i64 (mK l i))/\(Ag l)[i*3+2]? =some (.int .i64 (mV l i)):=by
 induction l with
 |nil=>intro i h;simp at h
 |cons a l ih=>
  intro i h
  cases i with
  |zero=>simp[EJ,mO,mK,mV]
  |succ i=>
   have:=ih i (by simpa using h)
   have e1:(i+1)*3=i*3+1+1+1:=by omega
   have e2:(i+1)*3+1=(i*3+1)+1+1+1:=by omega
   have e3:(i+1)*3+2=(i*3+2)+1+1+1:=by omega
   rw[e3,e2,e1,EJ]
   simpa[mO,mK,mV] using this
theorem Nw (l:ML) (a b c:Int):∀i,i<l.length->(((Ag l).set (i*3) (.int .i64 a)).set (i*3+1) (.int .i64 b)).set (i*3+2) (.int .i64 c)=Ag (l.set i (a,b,c)):=by
 induction l with
 |nil=>intro i h;simp at h
 |cons p l ih=>
  intro i h
  cases i with
  |zero=>simp[EJ]
  |succ i=>
   have:=ih i (by simpa using h)
   rw[EJ,List.set_cons_succ,EJ,show(i+1)*3+2=(i*3+2)+1+1+1 by omega,show(i+1)*3=i*3+1+1+1 by omega]
   simp only[List.set_cons_succ]
   rw[this]

theorem Row.msgs {w:World} {v:Value} {l:ML} (h:Row w v l.length (Ag l)) :
  ∃(a:Option Addr) (b off cap:Nat),v= .slice a l.length cap/\l.length<=cap/\cap<=maxLen/\(0<l.length->a=some ⟨b,off,none⟩)∧
   (∀i,i<l.length->w.cell? ⟨b,off+i*3,none⟩=some (.int .i64 (mO l i)))/\(∀i,i<l.length->w.cell? ⟨b,off+i*3+1,none⟩=some (.int .i64 (mK l i)))/\(∀i,i<l.length->w.cell? ⟨b,off+i*3+2,none⟩=some (.int .i64 (mV l i))):=by
 obtain⟨a,b,off,cap,h1,h2,h3,h4,h5,_⟩:=h
 exact⟨a,b,off,cap,h1,h2,h3,h4,fun i hi=>h5 _ _ (FD l i hi).1,fun i hi=>h5 _ _ (FD l i hi).2.1,fun i hi=>h5 _ _ (FD l i hi).2.2⟩

def IZ (a b c a' b' c' :Int):Bool:=decide (a=a' ∧b=b' ∧c=c')
theorem QQ {a b c d e f:Int} (h:IZ a b c d e f=true):a=d/\b=e/\c=f:=by simpa[IZ] using h
theorem P6 {l1 l2:ML} {k:Nat} (h:IZ (mO l1 k) (mK l1 k) (mV l1 k) (mO l2 k) (mK l2 k) (mV l2 k)=false):l1≠l2:=by
 intro e;subst e;simp[IZ] at h

theorem N5 (a b c d e f:Int) (w:World) :
  Calls Tryz.prog 53 #[.agg #[.int .i64 a, .int .i64 b, .int .i64 c], .agg #[.int .i64 d, .int .i64 e, .int .i64 f]] w fun r w' =>r= .returned (.bool (IZ a b c d e f))/\Below w.heap.size w w' :=by
 go_enter Tryz.func53,Tryz.ntmps53
 go_wp2
 all_goals (go_ret;refine⟨Az ?_,((Below.refl _ _).alloc (Nat.le_refl _) _).alloc (by simp) _⟩;simp_all[IZ])

theorem Tb (v1 v2:Value) (l1 l2:ML) (w:World) (h1:Row w v1 l1.length (Ag l1)) (h2:Row w v2 l2.length (Ag l2)) :
  Calls Tryz.prog 26 #[v1,v2] w fun e w' =>e= .returned (.bool (decide (l1=l2)))/\Below w.heap.size w w' :=by
 obtain⟨a,b,off,cap,rfl,hcap,hmax,ha,ho,hk,hv⟩:=h1.msgs
 obtain⟨a2,b2,off2,cap2,rfl,hcap2,hmax2,ha2,ho2,hk2,hv2⟩:=h2.msgs
 unfold maxLen at hmax hmax2;by_cases hl:l1.length=l2.length
 ·have hne:((l1.length:Int) != (l2.length:Int))=false:=by rw[bne_eq_false_iff_eq];omega
  have HL:Hid (l1.length=l2.length):=hl
  have hl2:l1.length<=l2.length:=by omega
  clear hl;go_enter Tryz.func26,Tryz.ntmps26
  go_wp2;go_loopw [5] (fun i wr=>∃k:Nat,k<=l1.length/\i= .int .i64 k/\(∀i,i<k->mO l1 i=mO l2 i/\mK l1 i=mK l2 i/\mV l1 i=mV l2 i)/\Below w.heap.size w wr)
   (fun i _=>l1.length-(intOf i).toNat)
  case atStart=>exact⟨0,Nat.zero_le _,rfl,fun i hi=>absurd hi (Nat.not_lt_zero _),Below.refl _ _⟩
  case round=>
   obtain⟨k,hkl,rfl,hall,hb⟩:=hrel
   have ALL:Hid (∀i,i<k->mO l1 i=mO l2 i/\mK l1 i=mK l2 i/\mV l1 i=mV l2 i):=hall
   clear hall;by_cases hlt:k<l1.length
   ·have hal:=ha (by omega)
    subst hal;have hal2:=ha2 (by omega)
    subst hal2;have hlt2:k<l2.length:=by omega
    have d0:=(hb.cell (by exact Aa (ho k hlt))).trans (ho k hlt)
    have d1:=(hb.cell (by exact Aa (hk k hlt))).trans (hk k hlt)
    have d2:=(hb.cell (by exact Aa (hv k hlt))).trans (hv k hlt)
    have d3:=(hb.cell (by exact Aa (ho2 k hlt2))).trans (ho2 k hlt2)
    have d4:=(hb.cell (by exact Aa (hk2 k hlt2))).trans (hk2 k hlt2)
    have d5:=(hb.cell (by exact Aa (hv2 k hlt2))).trans (hv2 k hlt2)
    clear ho hk hv ha ho2 hk2 hv2 ha2;go_wp2_with fail
    cases hq:IZ (mO l1 k) (mK l1 k) (mV l1 k) (mO l2 k) (mK l2 k) (mV l2 k)
    ·have NE:Hid (decide (l1=l2)=false):=decide_eq_false (P6 hq)
     go_region_with (go_at_call 53;refine(N5 _ _ _ _ _ _ _).mono ?_;rintro e w1 ⟨rfl,hb1⟩)
     all_goals
      go_wp2;go_ret;exact⟨Az NE.out.symm,hb.drew.trans (hb1.mono hb.size)⟩
    ·have EQ:Hid (mO l1 k=mO l2 k/\mK l1 k=mK l2 k/\mV l1 k=mV l2 k):=QQ hq
     go_region_with (go_at_call 53;refine(N5 _ _ _ _ _ _ _).mono ?_;rintro e w1 ⟨rfl,hb1⟩)
     all_goals
      go_wp2;go_roundw
      case rel=>exact⟨k+1,by omega,by go_num,fun i hi=>if h:i<k then ALL.out i h else by rw[show i=k by omega];exact EQ.out,hb.drew.trans (hb1.mono hb.size)⟩
      case measure=>simp[intOf];omega
   ·go_wp2;go_ret;refine⟨Az ?_,hb⟩
    symm
    rw[decide_eq_true_iff]
    exact Yn HL.out (fun i hi=>ALL.out i (by omega))
 ·have hne:((l1.length:Int) != (l2.length:Int))=true:=by rw[bne_iff_ne];omega
  go_enter Tryz.func26,Tryz.ntmps26
  go_wp2;go_ret;refine⟨Az ?_,Below.refl _ _⟩
  symm
  rw[decide_eq_false_iff_not]
  intro h;exact hl (by rw[h])

theorem Tryz.info44:(Tryz.prog.info? 44).map (fun i=>(i.zero,i.size,i.bytes))=some (some (.agg #[.int .i64 0, .int .i64 0, .int .i64 0]),3,24):=by kernel_rfl

def YD (l:ML) (k:Nat):ML:=l.take k++List.replicate (l.length-k) (0,0,0)
end
section
open Go.RowKit

structure Tr where
 leaf:Bool
 pairs:List (Int × Int)
 cuts:List Int
 kids:List Tr
 buf:ML

structure TV where
 lf:Bool
 p:Value
 c:Value
 k:Value
 b:Value

def TV.cells (x:TV):List Value:=[.bool x.lf,x.p,x.c,x.k,x.b]
abbrev TV.val (x:TV):Value:= .agg #[.bool x.lf,x.p,x.c,x.k,x.b]
def An (l:List TV):List Value:=l.flatMap TV.cells
def Ac (l:List Int):List Value:=l.map (.int .i64)

def Aj:Tr:=⟨true,[],[],[],[]⟩
def YV:TV:=⟨false, .slice none 0 0, .slice none 0 0, .slice none 0 0, .slice none 0 0⟩
def Bb (T:Tr) (i:Nat):Tr:=T.kids.getD i Aj
def Zb (T:Tr) (i:Nat):Int:=T.cuts.getD i 0
def iAt (l:List Int) (i:Nat):Int:=l.getD i 0
def Al (l:List TV) (i:Nat):TV:=l.getD i YV

theorem Bz (l:List Int):(Ac l).length=l.length:=by simp[Ac]
theorem Rd (l:List Int) (i:Nat) (h:i<l.length):(Ac l)[i]? =some (.int .i64 (iAt l i)):=by simp[Ac,iAt,List.getD,h]
theorem Dy (x:TV) (l:List TV):An (x::l)= .bool x.lf::x.p::x.c::x.k::x.b::An l:=rfl
theorem E8 (l m:List TV):An (l++m)=An l++An m:=by simp[An,List.flatMap_append]
theorem Bq (l:List TV):(An l).length=l.length*5:=by
 induction l with
 |nil=>rfl
 |cons a l ih=>rw[Dy];simp only[List.length_cons];omega
theorem E9 (l:List TV):∀i,i<l.length->(An l)[i*5]? =some (.bool (Al l i).lf)/\(An l)[i*5+1]? =some (Al l i).p/\(An l)[i*5+2]? =some (Al l i).c/\(An l)[i*5+3]? =some (Al l i).k/\(An l)[i*5+4]? =some (Al l i).b:=by
 induction l with
 |nil=>intro i h;simp at h
 |cons a l ih=>
  intro i h
  cases i with
  |zero=>simp[Dy,Al]
  |succ i=>
   have:=ih i (by simpa using h)
   rw[show(i+1)*5=i*5+1+1+1+1+1 by omega,Dy]
   rw[show i*5+1+1+1+1+1+1=(i*5+1)+1+1+1+1+1 by omega,show i*5+1+1+1+1+1+2=(i*5+2)+1+1+1+1+1 by omega,show i*5+1+1+1+1+1+3=(i*5+3)+1+1+1+1+1 by omega,show i*5+1+1+1+1+1+4=(i*5+4)+1+1+1+1+1 by omega]
   simpa[Al] using this
theorem Row.ints {w:World} {v:Value} {l:List Int} (h:Row w v l.length (Ac l)) :
  ∃(a:Option Addr) (b off cap:Nat),v= .slice a l.length cap/\l.length<=cap/\cap<=maxLen/\(0<l.length->a=some ⟨b,off,none⟩)∧
   (∀i,i<l.length->w.cell? ⟨b,off+i,none⟩=some (.int .i64 (iAt l i))):=by
 obtain⟨a,b,off,cap,h1,h2,h3,h4,h5,_⟩:=h
 exact⟨a,b,off,cap,h1,h2,h3,h4,fun i hi=>h5 _ _ (Rd l i hi)⟩
theorem Row.trees {w:World} {v:Value} {l:List TV} (h:Row w v l.length (An l)) :
  ∃(a:Option Addr) (b off cap:Nat),v= .slice a l.length cap/\l.length<=cap/\cap<=maxLen/\(0<l.length->a=some ⟨b,off,none⟩)∧
   (∀i,i<l.length->w.cell? ⟨b,off+i*5,none⟩=some (.bool (Al l i).lf))/\(∀i,i<l.length->w.cell? ⟨b,off+i*5+1,none⟩=some (Al l i).p)/\(∀i,i<l.length->w.cell? ⟨b,off+i*5+2,none⟩=some (Al l i).c)∧
   (∀i,i<l.length->w.cell? ⟨b,off+i*5+3,none⟩=some (Al l i).k)/\(∀i,i<l.length->w.cell? ⟨b,off+i*5+4,none⟩=some (Al l i).b):=by
 obtain⟨a,b,off,cap,h1,h2,h3,h4,h5,_⟩:=h
 exact⟨a,b,off,cap,h1,h2,h3,h4,fun i hi=>h5 _ _ (E9 l i hi).1,fun i hi=>h5 _ _ (E9 l i hi).2.1,fun i hi=>h5 _ _ (E9 l i hi).2.2.1,fun i hi=>h5 _ _ (E9 l i hi).2.2.2.1,fun i hi=>h5 _ _ (E9 l i hi).2.2.2.2⟩
theorem Row.len {w:World} {v:Value} {n:Nat} {xs:List Value} (h:Row w v n xs):∃(a:Option Addr) (cap:Nat),v= .slice a n cap/\n<=maxLen:=by
 obtain⟨a,b,off,cap,h1,h2,h3,_⟩:=h
 exact⟨a,cap,h1,Nat.le_trans h2 h3⟩

def AH:Nat->World->TV->Tr->Prop
 |0,_,_,_=>False
 | n + 1, w, x, T => x.lf = T.leaf ∧ Row w x.p T.pairs.length (Af T.pairs) ∧ Row w x.c T.cuts.length (Ac T.cuts) ∧ Row w x.b T.buf.length (Ag T.buf) ∧
   ∃xs:List TV,xs.length=T.kids.length/\Row w x.k xs.length (An xs)/\∀i,i<xs.length->AH n w (Al xs i) (Bb T i)

def Ev (n:Nat) (w:World) (v:Value) (ts:List Tr):Prop:=
 ∃xs:List TV,xs.length=ts.length/\Row w v xs.length (An xs)/\∀i,i<xs.length->AH n w (Al xs i) (ts.getD i Aj)

theorem AH.below:∀ {n:Nat} {w w' :World} {x:TV} {T:Tr},AH n w x T->Below w.heap.size w w' ->AH n w' x T
 |0,_,_,_,_,h,_=>h
 |_+1,_,_,_,_,⟨h1,h2,h3,h4,xs,h5,h6,h7⟩,hb=>⟨h1,h2.below hb,h3.below hb,h4.below hb,xs,h5,h6.below hb,fun i hi=>(h7 i hi).below hb⟩
theorem Ev.below {n:Nat} {w w' :World} {v:Value} {ts:List Tr} (h:Ev n w v ts) (hb:Below w.heap.size w w'):Ev n w' v ts:=by
 obtain⟨xs,h5,h6,h7⟩:=h
 exact⟨xs,h5,h6.below hb,fun i hi=>(h7 i hi).below hb⟩
theorem AH.parts {n:Nat} {w:World} {x:TV} {T:Tr} (h:AH (n+1) w x T) :
  x.lf=T.leaf/\Row w x.p T.pairs.length (Af T.pairs)/\Row w x.c T.cuts.length (Ac T.cuts)/\Row w x.b T.buf.length (Ag T.buf)/\Ev n w x.k T.kids:=by
 obtain⟨h1,h2,h3,h4,xs,h5,h6,h7⟩:=h
 exact⟨h1,h2,h3,h4,xs,h5,h6,h7⟩
def AQ:Nat->Tr->Nat
 |0,_=>0
 |n+1,T=>T.pairs.length+(T.cuts.length+(T.kids.length+(T.kids.map (AQ n)).sum+T.buf.length))
def YU (n:Nat) (ts:List Tr):Nat:=ts.length+(ts.map (AQ n)).sum
def IK (n:Nat) (ts:List Tr) (k:Nat):Nat:=((ts.take k).map (AQ n)).sum
theorem Ma (n:Nat) (ts:List Tr) (k:Nat) (h:k<ts.length):IK n ts (k+1)=IK n ts k+AQ n (ts.getD k Aj):=by
 rw[IK,IK,List.take_succ_eq_append_getElem h,List.map_append,List.sum_append]
 simp[List.getD,h]
theorem UN (n:Nat) (ts:List Tr):IK n ts ts.length=(ts.map (AQ n)).sum:=by simp[IK]
theorem W4 (n:Nat) (ts:List Tr):∀k,IK n ts k<=(ts.map (AQ n)).sum:=by
 intro k;have h:(ts.map (AQ n)).sum=((ts.take k).map (AQ n)).sum+((ts.drop k).map (AQ n)).sum:=by
  rw[←List.sum_append, ← List.map_append,List.take_append_drop]
 rw[IK,h]
 omega
theorem JP {n:Nat} {T:Tr} {i:Nat} (hi:i<T.kids.length):AQ n (Bb T i)+T.kids.length<=AQ (n+1) T:=by
 have h1:=W4 n T.kids (i+1)
 rw[Ma n T.kids i hi] at h1
 show AQ n (T.kids.getD i Aj)+_<=T.pairs.length+(T.cuts.length+(T.kids.length+(T.kids.map (AQ n)).sum+T.buf.length))
 omega

def YL (left:Int) (n:Nat):Int:=if (n:Int)<=left then left-n else -1
end
section
def Nn (n:Nat) (f:Nat->Bool):Bool:=(List.range n).all f
theorem DG {n:Nat} {f:Nat->Bool} (h:∀i,i<n->f i=true):Nn n f=true:=by
 simp only[Nn,List.all_eq_true,List.mem_range];exact h
theorem Fk {n:Nat} {f:Nat->Bool} {i:Nat} (hi:i<n) (h:f i=false):Nn n f=false:=by
 rw[Bool.eq_false_iff]
 intro hc;simp only[Nn,List.all_eq_true,List.mem_range] at hc
 rw[hc i hi] at h
 cases h
theorem Hm {n:Nat} {f:Nat->Bool} (h:Nn n f=true) {i:Nat} (hi:i<n):f i=true:=by
 simp only[Nn,List.all_eq_true,List.mem_range] at h
 exact h i hi

def FM (T:Tr) (lo hi:Int) (i:Nat):Bool:=inB (kOf T.pairs i) lo (hi-1)
def GY (T:Tr) (lo hi:Int):Bool:=Nn T.pairs.length (FM T lo hi)
def Bx (T:Tr) (lo hi:Int):Bool:=Bf T.pairs&&(decide (T.pairs.length<=4)&&(decide (T.cuts.length+T.kids.length+T.buf.length=0)&&GY T lo hi))
def Ff (T:Tr) (lo hi:Int) (i:Nat):Bool:=AO (mO T.buf i) (mK T.buf i) (mV T.buf i)&&(!(mO T.buf i==4)&&inB (mK T.buf i) lo (hi-1))
def Hi (T:Tr) (lo hi:Int):Bool:=Nn T.buf.length (Ff T lo hi)
def Dw (T:Tr) (lo:Int) (i:Nat):Int:=if i=0 then lo else iAt T.cuts (i-1)
def toT (T:Tr) (hi:Int) (i:Nat):Int:=if i<T.cuts.length then iAt T.cuts i else hi
def Gg (T:Tr) (lo hi:Int) (i:Nat):Bool:=inB (iAt T.cuts i) (Dw T lo i+1) (hi-1)
def Fr (T:Tr) (lo hi:Int):Bool:=Nn T.cuts.length (Gg T lo hi)
def En (T:Tr):Bool:=decide (T.pairs.length=0)&&(decide (2<=T.kids.length/\T.kids.length<=4)&&(decide (T.cuts.length+1=T.kids.length)&&decide (T.buf.length<=6)))
def BK (T:Tr) (lo hi:Int):Bool:=En T&&(Hi T lo hi&&Fr T lo hi)
def El (d:Nat->Nat) (n:Nat):Nat:=if (!(d 0==0)&&Nn n fun i=>d i==d 0)=true then d 0+1 else 0
def AG:Nat->Tr->Int->Int->Nat
 |0,_,_,_=>0
 |m+1,T,lo,hi=>if T.leaf=true then (if Bx T lo hi=true then 1 else 0) else if BK T lo hi=true then El (fun i=>AG m (Bb T i) (Dw T lo i) (toT T hi i)) T.kids.length else 0
def CD (m:Nat) (T:Tr) (lo hi:Int) (i:Nat):Nat:=AG m (Bb T i) (Dw T lo i) (toT T hi i)

theorem Dg {m:Nat} {T:Tr} {lo hi:Int} (h:T.leaf=true):AG (m+1) T lo hi=if Bx T lo hi=true then 1 else 0:=by rw[AG,if_pos h]
theorem J4 {m:Nat} {T:Tr} {lo hi:Int} (h:T.leaf=false) (hf:BK T lo hi=false):AG (m+1) T lo hi=0:=by
 rw[AG,if_neg (by rw[h];decide),if_neg (by rw[hf];decide)]
theorem Dv {m:Nat} {T:Tr} {lo hi:Int} (h:T.leaf=false) (hf:BK T lo hi=true):AG (m+1) T lo hi=El (CD m T lo hi) T.kids.length:=by
 rw[AG,if_neg (by rw[h];decide),if_pos hf];rfl
theorem Hg {d:Nat->Nat} {n i:Nat} (hi:i<n) (h:d i=0):El d n=0:=by
 rw[El,if_neg]
 intro hc;simp only[Bool.and_eq_true] at hc
 have:=Hm hc.2 hi
 simp only[beq_iff_eq] at this
 rw[h] at this
 rw[←this] at hc
 simp at hc
theorem GQ {d:Nat->Nat} {n i:Nat} (hi:i<n) (h:d i≠d 0):El d n=0:=by
 rw[El,if_neg]
 intro hc;simp only[Bool.and_eq_true] at hc
 have:=Hm hc.2 hi
 simp only[beq_iff_eq] at this
 exact h this
theorem F9 {d:Nat->Nat} {n:Nat} (h0:d 0≠0) (h:∀i,i<n->d i=d 0):El d n=d 0+1:=by
 rw[El,if_pos]
 simp only[Bool.and_eq_true]
 refine⟨by simpa using h0,DG fun i hi=>by simpa using h i hi⟩
theorem Wy {d:Nat->Nat} {n m:Nat} (h:∀i,d i<=m):El d n<=m+1:=by
 unfold El;split
 ·have:=h 0;omega
 ·omega
theorem GS:∀(m:Nat) (T:Tr) (lo hi:Int),AG m T lo hi<=m
 |0,_,_,_=>by simp[AG]
 |m+1,T,lo,hi=>by
  rw[AG]
  split
  ·split<;>omega
  ·split
   ·exact Wy fun i=>GS m _ _ _
   ·omega

def Wb:Nat->Tr->Nat
 |0,_=>0
 |n+1,T=>T.pairs.length+(T.kids.map (Wb n)).sum
def Yg:Nat->Tr->Nat
 |0,_=>0
 |n+1,T=>T.buf.length+(T.kids.map (Yg n)).sum
def Y8 (f:Tr->Nat) (ts:List Tr) (k:Nat):Nat:=((ts.take k).map f).sum
def YO (l:List Int) (k:Int):Nat:=(l.filter fun c=>decide (c<=k)).length

def Aw (T:Tr):Nat:=AG 7 T 0 1000
def okT (T:Tr):Bool:=decide (0<Aw T)
end
end Go.Proofs.YtebglpllkjgjbaaGreat
