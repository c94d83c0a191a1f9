/-
  Shrinking messages, as the model and as the program do it; plain mathematics: both come to one.
-/
import Derived.Test.YtadmomgdacfgpaaGreatOfBuilt9
import Derived.Test.YtadmomgdacfgpaaGreatOfBuilt7
namespace Go.Proofs.YtadmomgdacfgpaaGreat
set_option maxRecDepth 100000
set_option maxHeartbeats 8000000
section
def Gx (m:Int × Int × Int):Bool:=(m.1==1)||(m.1==2)
def GY (l:ML) (k:Int):Bool:=l.any fun m=>(m.2.1==k)&&Gx m
def El (l:ML) (k:Int):Bool:=l.any fun m=>okM m&&((m.2.1==k)&&Gx m)
def DF:ML->ML
 |[]=>[]
 |m::l=>if okM m=true/\m.1≠4/\El l m.2.1=false then m::DF l else DF l
def AV:ML->Int->Int
 |[],_=> -1
 |m::l,k=>if m.2.1=k then 0 else if AV l k<0 then -1 else AV l k+1
def CQ (A:ML) (m:Int × Int × Int):Bool:=decide (0<=AV A m.2.1)&&((mO A (AV A m.2.1).toNat==1)&&(m.1==3))
def BG (A:ML) (m:Int × Int × Int):ML:=
 if CQ A m=true then A.set (AV A m.2.1).toNat (mO A (AV A m.2.1).toNat,mK A (AV A m.2.1).toNat,Bj (mV A (AV A m.2.1).toNat+m.2.2)) else A++[m]
def At (ms:ML):ML:=(DF ms).foldl BG []

theorem Du (A:ML) (k:Int):(AV A k= -1/\∀m∈A,m.2.1≠k)∨∃n,AV A k=(n:Nat)/\n<A.length/\mK A n=k/\∀j,j<n->mK A j≠k:=by
 induction A with
 |nil=>left;exact⟨rfl,fun m hm=>by simp at hm⟩
 |cons m l ih=>
  rw[AV]
  by_cases h:m.2.1=k
  ·rw[if_pos h];right;exact⟨0,rfl,by simp,by simp[mK,h],fun j hj=>by omega⟩
  ·rw[if_neg h]
   rcases ih with⟨h1,h2⟩|⟨n,h1,h2,h3,h4⟩
   ·left
    rw[h1]
    exact⟨by simp,fun q hq=>by rcases List.mem_cons.1 hq with rfl|hq;exact h;exact h2 q hq⟩
   ·right
    rw[h1,if_neg (by omega)]
    refine⟨n+1,by simp,by simp;omega,by simpa[mK] using h3,fun j hj=> ?_⟩
    cases j with
    |zero=>simpa[mK] using h
    |succ j=>have:=h4 j (by omega);simpa[mK] using this
theorem FZ (A:ML) (k:Int):AV A k<A.length:=by
 rcases Du A k with⟨h,_⟩|⟨n,h,h2,_⟩<;>omega
theorem Ug (A:ML) (k:Int): -1<=AV A k:=by
 rcases Du A k with⟨h,_⟩|⟨n,h,h2,_⟩<;>omega
theorem UJ {A:ML} {k:Int} {n:Nat} (h1:n<A.length) (h2:mK A n=k) (h3:∀j,j<n->mK A j≠k):AV A k=n:=by
 rcases Du A k with⟨_,h⟩|⟨n',h,h4,h5,h6⟩
 ·exact absurd h2 (by have:=h A[n] (List.getElem_mem h1);rw[Ej A n h1] at this;exact this)
 ·rw[h]
  by_cases hlt:n' < n
  ·exact absurd h5 (h3 n' hlt)
  ·by_cases hgt:n<n'
   ·exact absurd h2 (h6 n hgt)
   ·omega
theorem Kc {A:ML} {k:Int} (h:∀m∈A,m.2.1≠k):AV A k= -1:=by
 rcases Du A k with⟨h,_⟩|⟨n,h1,h2,h3,_⟩
 ·exact h
 ·exact absurd h3 (by have:=h A[n] (List.getElem_mem h2);rw[Ej A n h2] at this;exact this)

def wgF (l:ML):ML:=l.filter fun m=>m.1 != 4
def woF:ML->ML
 |[]=>[]
 |m::l=>if GY l m.2.1=true then woF l else m::woF l
def DE (s:ML × PL) (m:Int × Int × Int):ML × PL:=
 if m.1=1 then (s.1++[m],B9 s.2 m.2.1 s.1.length)
 else if m.1=3/\(Ay s.2 m.2.1).2=true then (s.1.set (Ay s.2 m.2.1).1.toNat (1,m.2.1,Bj (mV s.1 (Ay s.2 m.2.1).1.toNat+m.2.2)),s.2)
 else (s.1++[m],s.2)
def Ka (l:ML):ML:=(l.foldl DE ([],[])).1

theorem Wh (l:ML) (k:Int):GY (wgF (BP l)) k=El l k:=by
 induction l with
 |nil=>rfl
 |cons m l ih=>
  rw[El,List.any_cons, ← El, ← ih]
  by_cases h1:okM m=true
  ·by_cases h2:m.1=4
   ·rw[BP,List.filter_cons_of_pos h1,wgF,List.filter_cons_of_neg (by simp[h2])]
    simp[Gx,h2,wgF,BP]
   ·rw[BP,List.filter_cons_of_pos h1,wgF,List.filter_cons_of_pos (by simp[h2]),GY,List.any_cons]
    simp[h1,wgF,BP,GY]
  ·rw[BP,List.filter_cons_of_neg h1]
   simp[h1,wgF,BP]
theorem V8 (ms:ML):woF (wgF (BP ms))=DF ms:=by
 induction ms with
 |nil=>rfl
 |cons m l ih=>
  have ho:=Wh l m.2.1
  rw[DF]
  by_cases h1:okM m=true
  ·by_cases h2:m.1=4
   ·rw[if_neg (by simp[h2]),BP,List.filter_cons_of_pos h1,wgF,List.filter_cons_of_neg (by simp[h2])]
    exact ih
   ·rw[BP,List.filter_cons_of_pos h1,wgF,List.filter_cons_of_pos (by simp[h2]),woF]
    have ho' :GY (List.filter (fun m=>m.1 != 4) (List.filter okM l)) m.2.1=El l m.2.1:=ho
    have ih' :woF (List.filter (fun m=>m.1 != 4) (List.filter okM l))=DF l:=ih
    rw[ho',ih']
    cases hb:El l m.2.1
    ·rw[if_neg (by decide),if_pos ⟨h1,h2,rfl⟩]
    ·rw[if_pos rfl,if_neg (by simp)]
  ·rw[if_neg (by simp[h1]),BP,List.filter_cons_of_neg h1]
   exact ih

theorem I6 (l:ML):∀m∈DF l,m∈l/\okM m=true/\m.1≠4:=by
 induction l with
 |nil=>intro m hm;simp[DF] at hm
 |cons p l ih=>
  intro m hm;rw[DF] at hm
  split at hm
  ·rename_i h
   rcases List.mem_cons.1 hm with rfl|hm
   ·exact⟨by simp,h.1,h.2.1⟩
   ·have:=ih m hm;exact⟨by simp[this.1],this.2⟩
  ·have:=ih m hm;exact⟨by simp[this.1],this.2⟩
def VY (l:ML):Prop:=l.Pairwise fun a b=>a.2.1=b.2.1->Gx b=false
theorem Mt (l:ML):VY (DF l):=by
 induction l with
 |nil=>exact List.Pairwise.nil
 |cons p l ih=>
  rw[DF]
  split
  ·rename_i h
   refine List.pairwise_cons.2 ⟨fun b hb he=> ?_,ih⟩
   obtain⟨hb1,hb2,_⟩:=I6 l b hb
   have h2:=h.2.2
   rw[El,List.any_eq_false] at h2
   have:=h2 b hb1
   simpa[hb2,he] using this
  ·exact ih

structure W5 (A:ML) (P:PL):Prop where
 asc:Asc P
 has:∀k,(Ay P k).2=true->∃n:Nat,(Ay P k).1=n/\AV A k=n/\n<A.length/\mO A n=1
 hasnt:∀k,(Ay P k).2=false->0<=AV A k->mO A (AV A k).toNat≠1

theorem Ek (A:ML) (m:Int × Int × Int) (k:Int):AV (A++[m]) k=if 0<=AV A k then AV A k else if m.2.1=k then (A.length:Int) else -1:=by
 induction A with
 |nil=>by_cases h:m.2.1=k<;>simp[AV,h]
 |cons p l ih=>
  have hl:=FZ l k
  have hg:=Ug l k
  rw[List.cons_append,AV,AV,ih]
  by_cases h:p.2.1=k
  ·simp[h]
  ·rw[if_neg h,if_neg h]
   simp only[List.length_cons]
   generalize AV l k=x at *
   by_cases hm:m.2.1=k
   ·simp only[hm,if_true];(repeat' split)<;>omega
   ·simp only[hm,if_false];(repeat' split)<;>omega
theorem D9 {A:ML} {m:Int × Int × Int} {n:Nat} (h:n<A.length):mO (A++[m]) n=mO A n:=by simp[mO,List.getD,List.getElem?_append_left h]
theorem GZ {A:ML} {m:Int × Int × Int}:mO (A++[m]) A.length=m.1:=by simp[mO,List.getD]
theorem R5 {A:ML} {n:Nat} {x:Int × Int × Int} (hx:n<A.length->x.2.1=mK A n) (k:Int):AV (A.set n x) k=AV A k:=by
 induction A generalizing n with
 |nil=>simp
 |cons p l ih=>
  cases n with
  |zero=>
   rw[List.set_cons_zero,AV,AV,hx (by simp)]
   simp[mK]
  |succ n=>
   rw[List.set_cons_succ,AV,AV,ih (fun h=>by have:=hx (by simpa using h);simpa[mK] using this)]

theorem Uq {A:ML} {P:PL} (h:W5 A P) (m:Int × Int × Int) (hr:Gx m=true->∀a∈A,a.2.1≠m.2.1) :
  (DE (A,P) m).1=BG A m/\W5 (DE (A,P) m).1 (DE (A,P) m).2:=by
 by_cases h1:m.1=1
 ·have hn:=Kc (hr (by simp[Gx,h1]))
  have e1:DE (A,P) m=(A++[m],B9 P m.2.1 A.length):=by simp[DE,h1]
  have e2:BG A m=A++[m]:=by rw[BG,if_neg (by simp[CQ,hn])]
  rw[e1,e2]
  refine⟨rfl,Jb h.asc _ _,fun k hk=> ?_,fun k hk h0=> ?_⟩
  ·by_cases hkm:k=m.2.1
   ·subst hkm;rw[Dr h.asc]
    refine⟨A.length,rfl, ?_,by simp,by rw[GZ];exact h1⟩
    show AV (A++[m]) m.2.1=_
    rw[Ek,hn];simp
   ·have hk' :(Ay P k).2=true:=by rw[←Cr h.asc (v:=A.length) hkm];exact hk
    obtain⟨n,g1,g2,g3,g4⟩:=h.has k hk'
    refine⟨n,by rw[Cr h.asc hkm];exact g1, ?_,by simp;omega,by show mO (A++[m]) n=1;rw[D9 g3];exact g4⟩
    show AV (A++[m]) k=_
    rw[Ek,g2,if_pos (by omega)]
  ·by_cases hkm:k=m.2.1
   ·subst hkm;rw[Dr h.asc] at hk;cases hk
   ·have hk' :(Ay P k).2=false:=by rw[←Cr h.asc (v:=A.length) hkm];exact hk
    have h0' :0<=AV (A++[m]) k:=h0
    show mO (A++[m]) (AV (A++[m]) k).toNat≠1
    rw[Ek] at h0' ⊢
    have hl:=FZ A k
    by_cases hp:0<=AV A k
    ·rw[if_pos hp,D9 (by omega)]
     exact h.hasnt k hk' hp
    ·rw[if_neg hp,if_neg (fun e=>hkm e.symm)] at h0'
     omega
 ·by_cases h3:m.1=3/\(Ay P m.2.1).2=true
  ·obtain⟨n,g1,g2,g3,g4⟩:=h.has _ h3.2
   have hk:mK A n=m.2.1:=by
    rcases Du A m.2.1 with⟨q,_⟩|⟨n',q,_,q3,_⟩
    ·omega
    ·have:n=n' :=by omega
     subst this;exact q3
   have e1:DE (A,P) m=(A.set n (1,m.2.1,Bj (mV A n+m.2.2)),P):=by simp[DE,h3.1,h3.2,g1]
   have e2:BG A m=A.set n (1,m.2.1,Bj (mV A n+m.2.2)):=by
    rw[BG,if_pos (by simp[CQ,g2,g4,h3.1])]
    simp[g2,g4,hk]
   rw[e1,e2]
   have hf:∀k,AV (A.set n (1,m.2.1,Bj (mV A n+m.2.2))) k=AV A k:=fun k=>R5 (x:=(1,m.2.1,Bj (mV A n+m.2.2))) (fun _=>hk.symm) k
   have ho:∀j,mO (A.set n (1,m.2.1,Bj (mV A n+m.2.2))) j=mO A j:=by
    intro j;by_cases hj:j=n
    ·subst hj;rw[g4];simp[mO,List.getD,g3]
    ·simp[mO,List.getD,List.getElem?_set_ne (fun e=>hj e.symm)]
   refine⟨rfl,h.asc,fun k hk=> ?_,fun k hk h0=> ?_⟩
   ·obtain⟨n',q1,q2,q3,q4⟩:=h.has k hk
    exact⟨n',q1,by rw[hf];exact q2,by simpa using q3,by rw[ho];exact q4⟩
   ·rw[hf] at h0 ⊢
    rw[ho]
    exact h.hasnt k hk h0
  ·have e1:DE (A,P) m=(A++[m],P):=by simp[DE,h1,h3]
   have hj:CQ A m=false:=by
    rw[Bool.eq_false_iff]
    intro hj;simp only[CQ,Bool.and_eq_true,decide_eq_true_eq,beq_iff_eq] at hj
    obtain⟨j1,j2,j3⟩:=hj
    cases hp:(Ay P m.2.1).2
    ·exact h.hasnt _ hp j1 j2
    ·exact h3 ⟨j3,hp⟩
   have e2:BG A m=A++[m]:=by rw[BG,hj];rfl
   rw[e1,e2]
   refine⟨rfl,h.asc,fun k hk=> ?_,fun k hk h0=> ?_⟩
   ·obtain⟨n,g1,g2,g3,g4⟩:=h.has k hk
    refine⟨n,g1, ?_,by simp;omega,by show mO (A++[m]) n=1;rw[D9 g3];exact g4⟩
    show AV (A++[m]) k=_
    rw[Ek,g2,if_pos (by omega)]
   ·have h0' :0<=AV (A++[m]) k:=h0
    show mO (A++[m]) (AV (A++[m]) k).toNat≠1
    rw[Ek] at h0' ⊢
    have hl:=FZ A k
    by_cases hp:0<=AV A k
    ·rw[if_pos hp,D9 (by omega)]
     exact h.hasnt k hk hp
    ·rw[if_neg hp] at h0' ⊢
     by_cases hm:m.2.1=k
     ·rw[if_pos hm,Int.toNat_natCast,GZ];exact h1
     ·rw[if_neg hm] at h0';omega

theorem JM (A:ML) (m:Int × Int × Int) (k:Int) (hA:∀a∈A,a.2.1≠k) (hm:m.2.1≠k):∀a∈BG A m,a.2.1≠k:=by
 unfold BG;split
 ·rename_i hj
  intro a ha;rcases List.mem_or_eq_of_mem_set ha with h|h
  ·exact hA a h
  ·subst h;have hl:=FZ A m.2.1
   simp only[CQ,Bool.and_eq_true,decide_eq_true_eq] at hj
   have hi:(AV A m.2.1).toNat<A.length:=by omega
   have:=hA A[(AV A m.2.1).toNat] (List.getElem_mem hi)
   rw[Ej A _ hi] at this
   exact this
 ·intro a ha;rcases List.mem_append.1 ha with h|h
  ·exact hA a h
  ·simp at h;subst h;exact hm

theorem Tg (l:ML) (hl:VY l) (A:ML) (P:PL) (h:W5 A P) (hA:∀m∈l,Gx m=true->∀a∈A,a.2.1≠m.2.1):(l.foldl DE (A,P)).1=l.foldl BG A:=by
 induction l generalizing A P with
 |nil=>rfl
 |cons m l ih=>
  obtain⟨hl1,hl2⟩:=List.pairwise_cons.1 hl
  obtain⟨e,hs⟩:=Uq h m (hA m (by simp))
  rw[List.foldl_cons,List.foldl_cons, ← e]
  refine ih hl2 (DE (A,P) m).1 (DE (A,P) m).2 hs (fun q hq hr=> ?_)
  rw[e]
  refine JM A m q.2.1 (hA q (by simp[hq]) hr) (fun he=> ?_)
  have:=hl1 q hq he
  rw[hr] at this;cases this

theorem UP (ms:ML):Ka (woF (wgF (BP ms)))=At ms:=by
 rw[V8,Ka,At]
 refine Tg _ (Mt ms) [] [] ⟨List.Pairwise.nil,fun k hk=>by simp[Ay] at hk,fun k _ h0=>by simp[AV] at h0⟩ (fun m _ _ a ha=>by simp at ha)

def okN (m:Int × Int × Int):Prop:=okM m=true/\m.1≠4
theorem SI (k v:Int) (hk:0<=k/\k<=999) (hv: -1000000000<=v/\v<=1000000000):okM (1,k,v)=true:=by
 show AO 1 k v=true
 simp[AO,inB,hk,hv]
theorem RX {A:ML} {n:Nat} (h:n<A.length):(mO A n,mK A n,mV A n)∈A:=by rw[←Ej A n h];exact List.getElem_mem h
theorem QB {A:ML} (hA:∀a∈A,okN a) {m:Int × Int × Int} (hm:okN m):∀a∈BG A m,okN a:=by
 unfold BG;split
 ·rename_i hj
  intro a ha;rcases List.mem_or_eq_of_mem_set ha with h|h
  ·exact hA a h
  ·subst h;have hl:=FZ A m.2.1
   simp only[CQ,Bool.and_eq_true,decide_eq_true_eq,beq_iff_eq] at hj
   have hi:(AV A m.2.1).toNat<A.length:=by omega
   have h1:=hA _ (RX hi)
   rw[hj.2.1] at h1 ⊢
   exact⟨SI _ _ (C5 h1.1).2.1 (JL _),by simp⟩
 ·intro a ha;rcases List.mem_append.1 ha with h|h
  ·exact hA a h
  ·simp at h;subst h;exact hm
theorem Pj (A:ML) (m:Int × Int × Int):(BG A m).length<=A.length+1:=by
 unfold BG;split<;>simp
theorem Vh (l:ML) (hl:∀m∈l,okN m) (A:ML) (hA:∀a∈A,okN a):∀a∈l.foldl BG A,okN a:=by
 induction l generalizing A with
 |nil=>exact hA
 |cons m l ih=>exact ih (fun q hq=>hl q (by simp[hq])) _ (QB hA (hl m (by simp)))
theorem Pk (l:ML) (A:ML):(l.foldl BG A).length<=A.length+l.length:=by
 induction l generalizing A with
 |nil=>simp
 |cons m l ih=>
  have h1:=ih (BG A m)
  have h2:=Pj A m
  rw[List.foldl_cons];simp only[List.length_cons];omega
theorem QU (l:ML):(DF l).length<=l.length:=by
 induction l with
 |nil=>simp[DF]
 |cons m l ih=>rw[DF];split<;>simp<;>omega
theorem Mz (ms:ML):∀a∈At ms,okN a:=Vh _ (fun m hm=>(I6 ms m hm).2) [] (fun a ha=>by simp at ha)
theorem Ga (ms:ML):(At ms).length<=ms.length:=by
 have h1:=Pk (DF ms) []
 have h2:=QU ms
 unfold At;simp at h1;omega
end
end Go.Proofs.YtadmomgdacfgpaaGreat
