/-
  Shrinking messages, as the model and as the program do it; plain mathematics: both come to one.
-/
import Derived.Test.YtnakaabnjelffaaGreatOfInject7
import Derived.Test.YtnakaabnjelffaaGreatOfInject6
namespace Go.Proofs.YtnakaabnjelffaaGreat
set_option maxRecDepth 100000
set_option maxHeartbeats 8000000
section
def GP (m:Int × Int × Int):Bool:=(m.1==1)||(m.1==2)
def Hf (l:ML) (k:Int):Bool:=l.any fun m=>(m.2.1==k)&&GP m
def Em (l:ML) (k:Int):Bool:=l.any fun m=>okM m&&((m.2.1==k)&&GP m)
def DB:ML->ML
 |[]=>[]
 |m::l=>if okM m=true/\m.1≠4/\Em l m.2.1=false then m::DB l else DB l
def AU:ML->Int->Int
 |[],_=> -1
 |m::l,k=>if m.2.1=k then 0 else if AU l k<0 then -1 else AU l k+1
def CY (A:ML) (m:Int × Int × Int):Bool:=decide (0<=AU A m.2.1)&&((mO A (AU A m.2.1).toNat==1)&&(m.1==3))
def BH (A:ML) (m:Int × Int × Int):ML:=
 if CY A m=true then A.set (AU A m.2.1).toNat (mO A (AU A m.2.1).toNat,mK A (AU A m.2.1).toNat,Bg (mV A (AU A m.2.1).toNat+m.2.2)) else A++[m]
def AC (ms:ML):ML:=(DB ms).foldl BH []

theorem Dv (A:ML) (k:Int):(AU A k= -1/\∀m∈A,m.2.1≠k)∨∃n,AU A k=(n:Nat)/\n<A.length/\mK A n=k/\∀j,j<n->mK A j≠k:=by
 induction A with
 |nil=>left;exact⟨rfl,fun m hm=>by simp at hm⟩
 |cons m l ih=>
  rw[AU]
  by_cases h:m.2.1=k
  ·rw[if_pos h];right;exact⟨0,rfl,by simp,by simp[mK,h],fun j hj=>by omega⟩
  ·rw[if_neg h]
   rcases ih with⟨h1,h2⟩|⟨n,h1,h2,h3,h4⟩
   ·left
    rw[h1]
    exact⟨by simp,fun q hq=>by rcases List.mem_cons.1 hq with rfl|hq;exact h;exact h2 q hq⟩
   ·right
    rw[h1,if_neg (by omega)]
    refine⟨n+1,by simp,by simp;omega,by simpa[mK] using h3,fun j hj=> ?_⟩
    cases j with
    |zero=>simpa[mK] using h
    |succ j=>have:=h4 j (by omega);simpa[mK] using this
theorem Gt (A:ML) (k:Int):AU A k<A.length:=by
 rcases Dv A k with⟨h,_⟩|⟨n,h,h2,_⟩<;>omega
theorem Vs (A:ML) (k:Int): -1<=AU A k:=by
 rcases Dv A k with⟨h,_⟩|⟨n,h,h2,_⟩<;>omega
theorem Uv {A:ML} {k:Int} {n:Nat} (h1:n<A.length) (h2:mK A n=k) (h3:∀j,j<n->mK A j≠k):AU A k=n:=by
 rcases Dv A k with⟨_,h⟩|⟨n',h,h4,h5,h6⟩
 ·exact absurd h2 (by have:=h A[n] (List.getElem_mem h1);rw[DV A n h1] at this;exact this)
 ·rw[h]
  by_cases hlt:n' < n
  ·exact absurd h5 (h3 n' hlt)
  ·by_cases hgt:n<n'
   ·exact absurd h2 (h6 n hgt)
   ·omega
theorem KX {A:ML} {k:Int} (h:∀m∈A,m.2.1≠k):AU A k= -1:=by
 rcases Dv A k with⟨h,_⟩|⟨n,h1,h2,h3,_⟩
 ·exact h
 ·exact absurd h3 (by have:=h A[n] (List.getElem_mem h2);rw[DV A n h2] at this;exact this)

def wgF (l:ML):ML:=l.filter fun m=>m.1 != 4
def woF:ML->ML
 |[]=>[]
 |m::l=>if Hf l m.2.1=true then woF l else m::woF l
def DE (s:ML × PL) (m:Int × Int × Int):ML × PL:=
 if m.1=1 then (s.1++[m],B9 s.2 m.2.1 s.1.length)
 else if m.1=3/\(AE s.2 m.2.1).2=true then (s.1.set (AE s.2 m.2.1).1.toNat (1,m.2.1,Bg (mV s.1 (AE s.2 m.2.1).1.toNat+m.2.2)),s.2)
 else (s.1++[m],s.2)
def Ll (l:ML):ML:=(l.foldl DE ([],[])).1

theorem Xk (l:ML) (k:Int):Hf (wgF (BS l)) k=Em l k:=by
 induction l with
 |nil=>rfl
 |cons m l ih=>
  rw[Em,List.any_cons, ← Em, ← ih]
  by_cases h1:okM m=true
  ·by_cases h2:m.1=4
   ·rw[BS,List.filter_cons_of_pos h1,wgF,List.filter_cons_of_neg (by simp[h2])]
    simp[GP,h2,wgF,BS]
   ·rw[BS,List.filter_cons_of_pos h1,wgF,List.filter_cons_of_pos (by simp[h2]),Hf,List.any_cons]
    simp[h1,wgF,BS,Hf]
  ·rw[BS,List.filter_cons_of_neg h1]
   simp[h1,wgF,BS]
theorem Xv (ms:ML):woF (wgF (BS ms))=DB ms:=by
 induction ms with
 |nil=>rfl
 |cons m l ih=>
  have ho:=Xk l m.2.1
  rw[DB]
  by_cases h1:okM m=true
  ·by_cases h2:m.1=4
   ·rw[if_neg (by simp[h2]),BS,List.filter_cons_of_pos h1,wgF,List.filter_cons_of_neg (by simp[h2])]
    exact ih
   ·rw[BS,List.filter_cons_of_pos h1,wgF,List.filter_cons_of_pos (by simp[h2]),woF]
    have ho' :Hf (List.filter (fun m=>m.1 != 4) (List.filter okM l)) m.2.1=Em l m.2.1:=ho
    have ih' :woF (List.filter (fun m=>m.1 != 4) (List.filter okM l))=DB l:=ih
    rw[ho',ih']
    cases hb:Em l m.2.1
    ·rw[if_neg (by decide),if_pos ⟨h1,h2,rfl⟩]
    ·rw[if_pos rfl,if_neg (by simp)]
  ·rw[if_neg (by simp[h1]),BS,List.filter_cons_of_neg h1]
   exact ih

theorem JS (l:ML):∀m∈DB l,m∈l/\okM m=true/\m.1≠4:=by
 induction l with
 |nil=>intro m hm;simp[DB] at hm
 |cons p l ih=>
  intro m hm;rw[DB] at hm
  split at hm
  ·rename_i h
   rcases List.mem_cons.1 hm with rfl|hm
   ·exact⟨by simp,h.1,h.2.1⟩
   ·have:=ih m hm;exact⟨by simp[this.1],this.2⟩
  ·have:=ih m hm;exact⟨by simp[this.1],this.2⟩
def Wu (l:ML):Prop:=l.Pairwise fun a b=>a.2.1=b.2.1->GP b=false
theorem Nq (l:ML):Wu (DB l):=by
 induction l with
 |nil=>exact List.Pairwise.nil
 |cons p l ih=>
  rw[DB]
  split
  ·rename_i h
   refine List.pairwise_cons.2 ⟨fun b hb he=> ?_,ih⟩
   obtain⟨hb1,hb2,_⟩:=JS l b hb
   have h2:=h.2.2
   rw[Em,List.any_eq_false] at h2
   have:=h2 b hb1
   simpa[hb2,he] using this
  ·exact ih

structure Yn (A:ML) (P:PL):Prop where
 asc:Asc P
 has:∀k,(AE P k).2=true->∃n:Nat,(AE P k).1=n/\AU A k=n/\n<A.length/\mO A n=1
 hasnt:∀k,(AE P k).2=false->0<=AU A k->mO A (AU A k).toNat≠1

theorem Es (A:ML) (m:Int × Int × Int) (k:Int):AU (A++[m]) k=if 0<=AU A k then AU A k else if m.2.1=k then (A.length:Int) else -1:=by
 induction A with
 |nil=>by_cases h:m.2.1=k<;>simp[AU,h]
 |cons p l ih=>
  have hl:=Gt l k
  have hg:=Vs l k
  rw[List.cons_append,AU,AU,ih]
  by_cases h:p.2.1=k
  ·simp[h]
  ·rw[if_neg h,if_neg h]
   simp only[List.length_cons]
   generalize AU l k=x at *
   by_cases hm:m.2.1=k
   ·simp only[hm,if_true];(repeat' split)<;>omega
   ·simp only[hm,if_false];(repeat' split)<;>omega
theorem Ea {A:ML} {m:Int × Int × Int} {n:Nat} (h:n<A.length):mO (A++[m]) n=mO A n:=by simp[mO,List.getD,List.getElem?_append_left h]
theorem Hp {A:ML} {m:Int × Int × Int}:mO (A++[m]) A.length=m.1:=by simp[mO,List.getD]
theorem SJ {A:ML} {n:Nat} {x:Int × Int × Int} (hx:n<A.length->x.2.1=mK A n) (k:Int):AU (A.set n x) k=AU A k:=by
 induction A generalizing n with
 |nil=>simp
 |cons p l ih=>
  cases n with
  |zero=>
   rw[List.set_cons_zero,AU,AU,hx (by simp)]
   simp[mK]
  |succ n=>
   rw[List.set_cons_succ,AU,AU,ih (fun h=>by have:=hx (by simpa using h);simpa[mK] using this)]

theorem U6 {A:ML} {P:PL} (h:Yn A P) (m:Int × Int × Int) (hr:GP m=true->∀a∈A,a.2.1≠m.2.1) :
  (DE (A,P) m).1=BH A m/\Yn (DE (A,P) m).1 (DE (A,P) m).2:=by
 by_cases h1:m.1=1
 ·have hn:=KX (hr (by simp[GP,h1]))
  have e1:DE (A,P) m=(A++[m],B9 P m.2.1 A.length):=by simp[DE,h1]
  have e2:BH A m=A++[m]:=by rw[BH,if_neg (by simp[CY,hn])]
  rw[e1,e2]
  refine⟨rfl,Mq h.asc _ _,fun k hk=> ?_,fun k hk h0=> ?_⟩
  ·by_cases hkm:k=m.2.1
   ·subst hkm;rw[Dn h.asc]
    refine⟨A.length,rfl, ?_,by simp,by rw[Hp];exact h1⟩
    show AU (A++[m]) m.2.1=_
    rw[Es,hn];simp
   ·have hk' :(AE P k).2=true:=by rw[←Ct h.asc (v:=A.length) hkm];exact hk
    obtain⟨n,g1,g2,g3,g4⟩:=h.has k hk'
    refine⟨n,by rw[Ct h.asc hkm];exact g1, ?_,by simp;omega,by show mO (A++[m]) n=1;rw[Ea g3];exact g4⟩
    show AU (A++[m]) k=_
    rw[Es,g2,if_pos (by omega)]
  ·by_cases hkm:k=m.2.1
   ·subst hkm;rw[Dn h.asc] at hk;cases hk
   ·have hk' :(AE P k).2=false:=by rw[←Ct h.asc (v:=A.length) hkm];exact hk
    have h0' :0<=AU (A++[m]) k:=h0
    show mO (A++[m]) (AU (A++[m]) k).toNat≠1
    rw[Es] at h0' ⊢
    have hl:=Gt A k
    by_cases hp:0<=AU A k
    ·rw[if_pos hp,Ea (by omega)]
     exact h.hasnt k hk' hp
    ·rw[if_neg hp,if_neg (fun e=>hkm e.symm)] at h0'
     omega
 ·by_cases h3:m.1=3/\(AE P m.2.1).2=true
  ·obtain⟨n,g1,g2,g3,g4⟩:=h.has _ h3.2
   have hk:mK A n=m.2.1:=by
    rcases Dv A m.2.1 with⟨q,_⟩|⟨n',q,_,q3,_⟩
    ·omega
    ·have:n=n' :=by omega
     subst this;exact q3
   have e1:DE (A,P) m=(A.set n (1,m.2.1,Bg (mV A n+m.2.2)),P):=by simp[DE,h3.1,h3.2,g1]
   have e2:BH A m=A.set n (1,m.2.1,Bg (mV A n+m.2.2)):=by
    rw[BH,if_pos (by simp[CY,g2,g4,h3.1])]
    simp[g2,g4,hk]
   rw[e1,e2]
   have hf:∀k,AU (A.set n (1,m.2.1,Bg (mV A n+m.2.2))) k=AU A k:=fun k=>SJ (x:=(1,m.2.1,Bg (mV A n+m.2.2))) (fun _=>hk.symm) k
   have ho:∀j,mO (A.set n (1,m.2.1,Bg (mV A n+m.2.2))) j=mO A j:=by
    intro j;by_cases hj:j=n
    ·subst hj;rw[g4];simp[mO,List.getD,g3]
    ·simp[mO,List.getD,List.getElem?_set_ne (fun e=>hj e.symm)]
   refine⟨rfl,h.asc,fun k hk=> ?_,fun k hk h0=> ?_⟩
   ·obtain⟨n',q1,q2,q3,q4⟩:=h.has k hk
    exact⟨n',q1,by rw[hf];exact q2,by simpa using q3,by rw[ho];exact q4⟩
   ·rw[hf] at h0 ⊢
    rw[ho]
    exact h.hasnt k hk h0
  ·have e1:DE (A,P) m=(A++[m],P):=by simp[DE,h1,h3]
   have hj:CY A m=false:=by
    rw[Bool.eq_false_iff]
    intro hj;simp only[CY,Bool.and_eq_true,decide_eq_true_eq,beq_iff_eq] at hj
    obtain⟨j1,j2,j3⟩:=hj
    cases hp:(AE P m.2.1).2
    ·exact h.hasnt _ hp j1 j2
    ·exact h3 ⟨j3,hp⟩
   have e2:BH A m=A++[m]:=by rw[BH,hj];rfl
   rw[e1,e2]
   refine⟨rfl,h.asc,fun k hk=> ?_,fun k hk h0=> ?_⟩
   ·obtain⟨n,g1,g2,g3,g4⟩:=h.has k hk
    refine⟨n,g1, ?_,by simp;omega,by show mO (A++[m]) n=1;rw[Ea g3];exact g4⟩
    show AU (A++[m]) k=_
    rw[Es,g2,if_pos (by omega)]
   ·have h0' :0<=AU (A++[m]) k:=h0
    show mO (A++[m]) (AU (A++[m]) k).toNat≠1
    rw[Es] at h0' ⊢
    have hl:=Gt A k
    by_cases hp:0<=AU A k
    ·rw[if_pos hp,Ea (by omega)]
     exact h.hasnt k hk hp
    ·rw[if_neg hp] at h0' ⊢
     by_cases hm:m.2.1=k
     ·rw[if_pos hm,Int.toNat_natCast,Hp];exact h1
     ·rw[if_neg hm] at h0';omega

theorem KU (A:ML) (m:Int × Int × Int) (k:Int) (hA:∀a∈A,a.2.1≠k) (hm:m.2.1≠k):∀a∈BH A m,a.2.1≠k:=by
 unfold BH;split
 ·rename_i hj
  intro a ha;rcases List.mem_or_eq_of_mem_set ha with h|h
  ·exact hA a h
  ·subst h;have hl:=Gt A m.2.1
   simp only[CY,Bool.and_eq_true,decide_eq_true_eq] at hj
   have hi:(AU A m.2.1).toNat<A.length:=by omega
   have:=hA A[(AU A m.2.1).toNat] (List.getElem_mem hi)
   rw[DV A _ hi] at this
   exact this
 ·intro a ha;rcases List.mem_append.1 ha with h|h
  ·exact hA a h
  ·simp at h;subst h;exact hm

theorem Vz (l:ML) (hl:Wu l) (A:ML) (P:PL) (h:Yn A P) (hA:∀m∈l,GP m=true->∀a∈A,a.2.1≠m.2.1):(l.foldl DE (A,P)).1=l.foldl BH A:=by
 induction l generalizing A P with
 |nil=>rfl
 |cons m l ih=>
  obtain⟨hl1,hl2⟩:=List.pairwise_cons.1 hl
  obtain⟨e,hs⟩:=U6 h m (hA m (by simp))
  rw[List.foldl_cons,List.foldl_cons, ← e]
  refine ih hl2 (DE (A,P) m).1 (DE (A,P) m).2 hs (fun q hq hr=> ?_)
  rw[e]
  refine KU A m q.2.1 (hA q (by simp[hq]) hr) (fun he=> ?_)
  have:=hl1 q hq he
  rw[hr] at this;cases this

theorem Vc (ms:ML):Ll (woF (wgF (BS ms)))=AC ms:=by
 rw[Xv,Ll,AC]
 refine Vz _ (Nq ms) [] [] ⟨List.Pairwise.nil,fun k hk=>by simp[AE] at hk,fun k _ h0=>by simp[AU] at h0⟩ (fun m _ _ a ha=>by simp at ha)

def okN (m:Int × Int × Int):Prop:=okM m=true/\m.1≠4
theorem Tt (k v:Int) (hk:0<=k/\k<=999) (hv: -1000000000<=v/\v<=1000000000):okM (1,k,v)=true:=by
 show AK 1 k v=true
 simp[AK,inB,hk,hv]
theorem S9 {A:ML} {n:Nat} (h:n<A.length):(mO A n,mK A n,mV A n)∈A:=by rw[←DV A n h];exact List.getElem_mem h
theorem Qj {A:ML} (hA:∀a∈A,okN a) {m:Int × Int × Int} (hm:okN m):∀a∈BH A m,okN a:=by
 unfold BH;split
 ·rename_i hj
  intro a ha;rcases List.mem_or_eq_of_mem_set ha with h|h
  ·exact hA a h
  ·subst h;have hl:=Gt A m.2.1
   simp only[CY,Bool.and_eq_true,decide_eq_true_eq,beq_iff_eq] at hj
   have hi:(AU A m.2.1).toNat<A.length:=by omega
   have h1:=hA _ (S9 hi)
   rw[hj.2.1] at h1 ⊢
   exact⟨Tt _ _ (CG h1.1).2.1 (KQ _),by simp⟩
 ·intro a ha;rcases List.mem_append.1 ha with h|h
  ·exact hA a h
  ·simp at h;subst h;exact hm
theorem P8 (A:ML) (m:Int × Int × Int):(BH A m).length<=A.length+1:=by
 unfold BH;split<;>simp
theorem Wr (l:ML) (hl:∀m∈l,okN m) (A:ML) (hA:∀a∈A,okN a):∀a∈l.foldl BH A,okN a:=by
 induction l generalizing A with
 |nil=>exact hA
 |cons m l ih=>exact ih (fun q hq=>hl q (by simp[hq])) _ (Qj hA (hl m (by simp)))
theorem PV (l:ML) (A:ML):(l.foldl BH A).length<=A.length+l.length:=by
 induction l generalizing A with
 |nil=>simp
 |cons m l ih=>
  have h1:=ih (BH A m)
  have h2:=P8 A m
  rw[List.foldl_cons];simp only[List.length_cons];omega
theorem RZ (l:ML):(DB l).length<=l.length:=by
 induction l with
 |nil=>simp[DB]
 |cons m l ih=>rw[DB];split<;>simp<;>omega
theorem Na (ms:ML):∀a∈AC ms,okN a:=Wr _ (fun m hm=>(JS ms m hm).2) [] (fun a ha=>by simp at ha)
theorem Gs (ms:ML):(AC ms).length<=ms.length:=by
 have h1:=PV (DB ms) []
 have h2:=RZ ms
 unfold AC;simp at h1;omega
end
end Go.Proofs.YtnakaabnjelffaaGreat
