/-
  What comes of a tree that is given messages, as plain functions; shapes and weights.
  Appending a list to a row of one's own, at a step of a region that draws its order.
  Rows and trees with the blocks that they lie in: what stays when other blocks are written.
  The contract of the model's l3Pending.
  The contract of the program's wayDown.
-/
import Derived.Test.YtebglpllkjgjbaaGreatOfBuild7
import Derived.Test.YtebglpllkjgjbaaGreatOfBuild8
import Derived.Test.YtebglpllkjgjbaaGreatOfBuild3
import Derived.Deep.RegionHeld3
import Derived.Deep.AppendLies
import Derived.Test.YtebglpllkjgjbaaGreatOfBuild5
import Derived.Test.YtebglpllkjgjbaaGreatOfBuild6
import Derived.Deep.DeepCutAuto
namespace Go.Proofs.YtebglpllkjgjbaaGreat
set_option maxRecDepth 100000
set_option maxHeartbeats 8000000
section
open Go.RowKit

abbrev TM:=List Tr × List Int

def Ao (cs:List Int) (i:Nat) (b:ML):ML:=b.filter fun m=>decide (AJ cs m.2.1=i)
def AY (cs:List Int) (i:Nat) (b:ML):ML:=b.filter fun m=> !decide (AJ cs m.2.1=i)
theorem Lf (cs:List Int) (i:Nat) (b:ML) (j:Nat) (h:j<b.length):Ao cs i (b.take (j+1))=if AJ cs (mK b j)=i then Ao cs i (b.take j)++[(mO b j,mK b j,mV b j)] else Ao cs i (b.take j):=by
 rw[DV b j h,Ao,List.filter_append]
 by_cases hq:AJ cs (mK b j)=i
 ·rw[if_pos hq];simp[Ao,hq]
 ·rw[if_neg hq];simp[Ao,hq]
theorem Md (cs:List Int) (i:Nat) (b:ML) (j:Nat) (h:j<b.length):AY cs i (b.take (j+1))=if AJ cs (mK b j)=i then AY cs i (b.take j) else AY cs i (b.take j)++[(mO b j,mK b j,mV b j)]:=by
 rw[DV b j h,AY,List.filter_append]
 by_cases hq:AJ cs (mK b j)=i
 ·rw[if_pos hq];simp[AY,hq]
 ·rw[if_neg hq];simp[AY,hq]
theorem EL (cs:List Int) (i:Nat) (b:ML):(Ao cs i b).length+(AY cs i b).length=b.length:=by
 induction b with
 |nil=>rfl
 |cons a l ih=>
  unfold Ao AY at *
  by_cases h:AJ cs a.2.1=i<;>simp[h]<;>omega
theorem CF (cs:List Int) (i:Nat) (b:ML):(Ao cs i b).length<=b.length:=List.length_filter_le _ _
theorem Jo (cs:List Int) (i:Nat) (b:ML):(AY cs i b).length<=b.length:=List.length_filter_le _ _
def G6 (cs:List Int) (b:ML):Nat->Nat
 |0=>0
 |k+1=>G6 cs b k+(Ao cs k b).length
theorem IW (cs:List Int) (b:ML) (n:Nat):G6 cs b n<=b.length:=by
 have key:∀n,G6 cs b n=(b.filter fun m=>decide (AJ cs m.2.1<n)).length:=by
  intro n;induction n with
  |zero=>
   rw[G6,List.filter_eq_nil_iff.2 (fun a _=>by simp)]
   rfl
  |succ n ih=>
   rw[G6,ih,Ao]
   clear ih;induction b with
   |nil=>rfl
   |cons a l ih=>
    rcases Nat.lt_trichotomy (AJ cs a.2.1) n with h|h|h
    ·simp[show AJ cs a.2.1<n from h,show ¬AJ cs a.2.1=n by omega,show AJ cs a.2.1<n+1 by omega];omega
    ·simp[h];omega
    ·simp[show ¬AJ cs a.2.1<n by omega,show ¬AJ cs a.2.1=n by omega,show ¬AJ cs a.2.1<n+1 by omega];omega
 rw[key]
 exact List.length_filter_le _ _

def Ah (cs:List Int) (b:ML):Nat->Nat × Int
 |0=>(0, -1)
 |k+1=>if (Ah cs b k).2<((Ao cs k b).length:Int) then (k,((Ao cs k b).length:Int)) else Ah cs b k
theorem Do (cs:List Int) (b:ML):∀n,0<n->(Ah cs b n).1<n/\(Ah cs b n).2=((Ao cs (Ah cs b n).1 b).length:Int):=by
 intro n hn;induction n with
 |zero=>omega
 |succ n ih=>
  rw[Ah]
  by_cases h:(Ah cs b n).2<((Ao cs n b).length:Int)
  ·rw[if_pos h];exact⟨Nat.lt_succ_self _,rfl⟩
  ·rw[if_neg h]
   rcases Nat.eq_zero_or_pos n with h0|h0
   ·subst h0;exfalso
    apply h
    simp only[Ah]
    omega
   ·exact⟨Nat.lt_succ_of_lt (ih h0).1,(ih h0).2⟩
theorem JZ (cs:List Int) (b:ML):∀n i,i<n->((Ao cs i b).length:Int)<=(Ah cs b n).2:=by
 intro n;induction n with
 |zero=>intro i h;omega
 |succ n ih=>
  intro i hi;rw[Ah]
  by_cases h:(Ah cs b n).2<((Ao cs n b).length:Int)
  ·rw[if_pos h]
   by_cases hin:i=n
   ·subst hin;exact Int.le_refl _
   ·have:=ih i (by omega)
    simp only
    omega
  ·rw[if_neg h]
   by_cases hin:i=n
   ·subst hin;omega
   ·exact ih i (by omega)
theorem UV (cs:List Int) (b:ML):∀n, -1<=(Ah cs b n).2/\(Ah cs b n).2<=b.length/\(Ah cs b n).1<=n:=by
 intro n;rcases Nat.eq_zero_or_pos n with h0|h0
 ·subst h0;simp[Ah]
 ·have:=Do cs b n h0
  have:=CF cs (Ah cs b n).1 b
  omega
theorem Fe {cs:List Int} {b:ML} {n:Nat} (hb:0<b.length) (hn:cs.length<n):0<(Ao cs (Ah cs b n).1 b).length:=by
 have h1:=(Do cs b n (by omega)).2
 have h2:=JZ cs b n (AJ cs (b[0]'hb).2.1) (by have:=GU cs (b[0]'hb).2.1;omega)
 have h3:0<(Ao cs (AJ cs (b[0]'hb).2.1) b).length:=by
  apply List.length_pos_of_mem (a:=b[0]'hb)
  exact List.mem_filter.2 ⟨List.getElem_mem hb,by simp⟩
 omega

def AE (r:Nat):Nat:=if r=3 then 3 else 2
theorem Bs (r:Nat):AE r=2∨(AE r=3/\r=3):=by unfold AE;split<;>simp_all

def Ds (ps:PL):Tr:=⟨true,ps,[],[],[]⟩
def L4 (ps:PL):Nat->Nat->List Tr
 |0,_=>[]
 |f+1,i=>if i<ps.length then Ds ((ps.drop i).take (AE (ps.length-i)))::L4 ps f (i+AE (ps.length-i)) else []
def Lr (ps:PL):Nat->Nat->List Int
 |0,_=>[]
 |f+1,i=>if i<ps.length then (if 0<i then [kOf ps i] else [])++Lr ps f (i+AE (ps.length-i)) else []
def lfT (ps:PL) (i:Nat):List Tr:=L4 ps (ps.length-i) i
def lfC (ps:PL) (i:Nat):List Int:=Lr ps (ps.length-i) i
theorem JQ (ps:PL):∀f g i,ps.length-i<=f->ps.length-i<=g->L4 ps f i=L4 ps g i
 |0,0,_,_,_=>rfl
 |0,g+1,i,h,_=>by rw[L4,L4,if_neg (by omega)]
 |f+1,0,i,_,h=>by rw[L4,L4,if_neg (by omega)]
 |f+1,g+1,i,hf,hg=>by
  have:=Bs (ps.length-i)
  rw[L4,L4]
  split
  ·rw[JQ ps f g _ (by omega) (by omega)]
  ·rfl
theorem Kc (ps:PL):∀f g i,ps.length-i<=f->ps.length-i<=g->Lr ps f i=Lr ps g i
 |0,0,_,_,_=>rfl
 |0,g+1,i,h,_=>by rw[Lr,Lr,if_neg (by omega)]
 |f+1,0,i,_,h=>by rw[Lr,Lr,if_neg (by omega)]
 |f+1,g+1,i,hf,hg=>by
  have:=Bs (ps.length-i)
  rw[Lr,Lr]
  split
  ·rw[Kc ps f g _ (by omega) (by omega)]
  ·rfl
theorem I6 (ps:PL) (i:Nat):lfT ps i=if i<ps.length then Ds ((ps.drop i).take (AE (ps.length-i)))::lfT ps (i+AE (ps.length-i)) else []:=by
 have h2:=Bs (ps.length-i)
 unfold lfT;rw[JQ ps (ps.length-i) (ps.length-i+1) i (by omega) (by omega),L4]
 split
 ·rw[JQ ps (ps.length-i) (ps.length-(i+AE (ps.length-i))) _ (by omega) (by omega)]
 ·rfl
theorem Hs (ps:PL) (i:Nat):lfC ps i=if i<ps.length then (if 0<i then [kOf ps i] else [])++lfC ps (i+AE (ps.length-i)) else []:=by
 have h2:=Bs (ps.length-i)
 unfold lfC;rw[Kc ps (ps.length-i) (ps.length-i+1) i (by omega) (by omega),Lr]
 split
 ·rw[Kc ps (ps.length-i) (ps.length-(i+AE (ps.length-i))) _ (by omega) (by omega)]
 ·rfl
def leafM (ps:PL):TM:=if ps.length<=4 then ([Ds ps],[]) else (lfT ps 0,lfC ps 0)

def FN (m:TM) (i:Nat):Tr:=⟨false,[],(m.2.drop i).take (AE (m.1.length-i)-1),(m.1.drop i).take (AE (m.1.length-i)),[]⟩
def Lt (m:TM):Nat->Nat->List Tr
 |0,_=>[]
 |f+1,i=>if i<m.1.length then FN m i::Lt m f (i+AE (m.1.length-i)) else []
def Mx (m:TM):Nat->Nat->List Int
 |0,_=>[]
 |f+1,i=>if i<m.1.length then (if 0<i then [iAt m.2 (i-1)] else [])++Mx m f (i+AE (m.1.length-i)) else []
def pkT (m:TM) (i:Nat):List Tr:=Lt m (m.1.length-i) i
def pkC (m:TM) (i:Nat):List Int:=Mx m (m.1.length-i) i
theorem Kd (m:TM):∀f g i,m.1.length-i<=f->m.1.length-i<=g->Lt m f i=Lt m g i
 |0,0,_,_,_=>rfl
 |0,g+1,i,h,_=>by rw[Lt,Lt,if_neg (by omega)]
 |f+1,0,i,_,h=>by rw[Lt,Lt,if_neg (by omega)]
 |f+1,g+1,i,hf,hg=>by
  have:=Bs (m.1.length-i)
  rw[Lt,Lt]
  split
  ·rw[Kd m f g _ (by omega) (by omega)]
  ·rfl
theorem J3 (m:TM):∀f g i,m.1.length-i<=f->m.1.length-i<=g->Mx m f i=Mx m g i
 |0,0,_,_,_=>rfl
 |0,g+1,i,h,_=>by rw[Mx,Mx,if_neg (by omega)]
 |f+1,0,i,_,h=>by rw[Mx,Mx,if_neg (by omega)]
 |f+1,g+1,i,hf,hg=>by
  have:=Bs (m.1.length-i)
  rw[Mx,Mx]
  split
  ·rw[J3 m f g _ (by omega) (by omega)]
  ·rfl
theorem Kf (m:TM) (i:Nat):pkT m i=if i<m.1.length then FN m i::pkT m (i+AE (m.1.length-i)) else []:=by
 have h2:=Bs (m.1.length-i)
 unfold pkT;rw[Kd m (m.1.length-i) (m.1.length-i+1) i (by omega) (by omega),Lt]
 split
 ·rw[Kd m (m.1.length-i) (m.1.length-(i+AE (m.1.length-i))) _ (by omega) (by omega)]
 ·rfl
theorem I5 (m:TM) (i:Nat):pkC m i=if i<m.1.length then (if 0<i then [iAt m.2 (i-1)] else [])++pkC m (i+AE (m.1.length-i)) else []:=by
 have h2:=Bs (m.1.length-i)
 unfold pkC;rw[J3 m (m.1.length-i) (m.1.length-i+1) i (by omega) (by omega),Mx]
 split
 ·rw[J3 m (m.1.length-i) (m.1.length-(i+AE (m.1.length-i))) _ (by omega) (by omega)]
 ·rfl
def CP (m:TM):TM:=(pkT m 0,pkC m 0)

def BD (m:TM) (i:Nat) (x:TM):TM:=(m.1.take i++x.1++m.1.drop (i+1),m.2.take i++x.2++m.2.drop i)

def AU (f:Nat->TM):Nat->List Tr
 |0=>[]
 |k+1=>AU f k++(f k).1
def Cx (f:Nat->TM) (cs:List Int):Nat->List Int
 |0=>[]
 |k+1=>(Cx f cs k++if 0<k then [iAt cs (k-1)] else [])++(f k).2
def Cz (g:Tr->ML->TM) (m:TM) (b:ML) (i:Nat):TM:=if 0<(Ao m.2 i b).length then g (m.1.getD i Aj) (Ao m.2 i b) else ([m.1.getD i Aj],[])
def CM (g:Tr->ML->TM) (m:TM) (b:ML):TM:=(AU (Cz g m b) m.1.length,Cx (Cz g m b) m.2 m.1.length)

def Bt (g:Tr->ML->TM):Nat->TM->ML->TM × ML
 |0,m,b=>(m,b)
 |f+1,m,b=>if 6<b.length then Bt g f (BD m (Ah m.2 b m.1.length).1 (g (m.1.getD (Ah m.2 b m.1.length).1 Aj) (Ao m.2 (Ah m.2 b m.1.length).1 b))) (AY m.2 (Ah m.2 b m.1.length).1 b) else (m,b)

def Iw (g:Tr->ML->TM) (r:TM × ML):TM:=if 4<r.1.1.length then CP (CM g r.1 r.2) else ([⟨false,[],r.1.2,r.1.1,r.2⟩],[])
def Ad:Nat->Tr->ML->TM
 |0,T,_=>([T],[])
 | d + 1, T, ms => if T.leaf = true then leafM (Cg T.pairs ms) else
   Iw (Ad d) (Bt (Ad d) (Av (T.buf++ms)).length (T.kids,T.cuts) (Av (T.buf++ms)))

def B9:Nat->TM->Tr
 |0,m=>m.1.getD 0 Aj
 |f+1,m=>if 4<m.1.length then B9 f (CP m) else if m.1.length=1 then m.1.getD 0 Aj else ⟨false,[],m.2,m.1,[]⟩

def GW (f:Nat->TM) (m:TM):TM:=(AU f m.1.length,Cx f m.2 m.1.length)
def Cs (o:TM):TM:=if 4<o.1.length then CP o else ([⟨false,[],o.2,o.1,[]⟩],[])
def RV:Nat->Tr->TM
 |0,T=>([T],[])
 | d + 1, T => if T.leaf = true then ([T], []) else
   Cs (GW (fun i=>RV d ((CM (Ad d) (T.kids,T.cuts) T.buf).1.getD i Aj)) (CM (Ad d) (T.kids,T.cuts) T.buf))

def shT:Nat->Tr->Prop
 |0,_=>False
 | d + 1, T => (T.leaf = true ∧ d = 0 ∧ T.pairs.length ≤ 4 ∧ T.cuts = [] ∧ T.kids = [] ∧ T.buf = []) ∨
   (T.leaf=false/\T.pairs=[]/\2<=T.kids.length/\T.kids.length<=4/\T.cuts.length+1=T.kids.length/\T.buf.length<=6/\∀t∈T.kids,shT d t)
def wt:Nat->Tr->Nat
 |0,_=>0
 |d+1,T=>if T.leaf=true then 1 else (T.kids.map (wt d)).sum+T.buf.length
def wtL (d:Nat) (ts:List Tr):Nat:=(ts.map (wt d)).sum
theorem Dh (d:Nat) (a b:List Tr):wtL d (a++b)=wtL d a+wtL d b:=by simp[wtL,List.sum_append]
theorem G7 (d:Nat) (t:Tr):wtL d [t]=wt d t:=by simp[wtL]
theorem H4 (d:Nat) (t:Tr) (l:List Tr):wtL d (t::l)=wt d t+wtL d l:=by simp[wtL]
theorem Wg:∀ {d:Nat} {T:Tr},shT d T->1<=wt d T
 |0,_,h=>h.elim
 |d+1,T,h=>by
  rcases h with⟨h,_⟩|⟨h1,_,h2,_,_,_,h3⟩
  ·rw[wt,if_pos h];exact Nat.le_refl _
  ·rw[wt,if_neg (by rw[h1];simp)]
   match hk:T.kids with
   |[]=>rw[hk] at h2;simp at h2
   |t::l=>
    have:=Wg (h3 t (by rw[hk];simp))
    simp only[List.map_cons,List.sum_cons]
    omega
theorem BH {d:Nat}:∀ {ts:List Tr},(∀t∈ts,shT d t)->ts.length<=wtL d ts
 |[],_=>Nat.le_refl _
 |t::l,h=>by
  have:=Wg (h t (by simp))
  have:=BH (ts:=l) (fun u hu=>h u (by simp[hu]))
  rw[H4]
  simp only[List.length_cons]
  omega

def MOk (d:Nat) (m:TM):Prop:=m.2.length+1=m.1.length/\∀t∈m.1,shT d t
theorem MOk.one {d:Nat} {t:Tr} (h:shT d t):MOk d ([t],[]):=⟨rfl,fun u hu=>by simp at hu;subst hu;exact h⟩
theorem Cy {l:List Tr} {i:Nat} (h:i<l.length):l.getD i Aj∈l:=by
 simp[List.getD,h]

theorem QA {ps:PL} (h:ps.length<=4):shT 1 (Ds ps):= .inl ⟨rfl,rfl,h,rfl,rfl,rfl⟩
theorem YA (ps:PL):∀n i,ps.length-i<=n->(2<=ps.length-i∨ps.length<=i)->(∀t∈lfT ps i,shT 1 t)/\(lfT ps i).length*2<=ps.length-i/\wtL 1 (lfT ps i)=(lfT ps i).length/\(lfC ps i).length+(if i=0/\0<ps.length then 1 else 0)=(lfT ps i).length:=by
 intro n;induction n with
 |zero=>
  intro i h h2;rw[I6,Hs,if_neg (show ¬i<ps.length by omega),if_neg (show ¬i<ps.length by omega),if_neg (show ¬(i=0/\0<ps.length) by omega)]
  exact⟨fun t ht=>by simp at ht,by simp,rfl,rfl⟩
 |succ n ih=>
  intro i h h2;rw[I6,Hs]
  by_cases hi:i<ps.length
  ·rw[if_pos hi,if_pos hi]
   have hm:=Bs (ps.length-i)
   obtain⟨k1,k2,k3,k4⟩:=ih (i+AE (ps.length-i)) (by omega) (by
    rcases hm with e|⟨e,e2⟩
    ·rw[e]
     have:AE (ps.length-i)≠3:=by omega
     have:ps.length-i≠3:=fun h3=>by rw[h3] at this;exact this rfl
     omega
    ·omega)
   refine⟨fun t ht=> ?_, ?_, ?_, ?_⟩
   ·rcases List.mem_cons.1 ht with rfl|ht
    ·exact QA (by simp;omega)
    ·exact k1 t ht
   ·simp only[List.length_cons];omega
   ·rw[H4,k3];simp[wt,Ds];omega
   ·simp only[List.length_cons,List.length_append]
    rw[if_neg (by omega)] at k4
    by_cases h0:i=0
    ·subst h0;simp[hi] at *;omega
    ·rw[if_pos (Nat.pos_of_ne_zero h0),if_neg (by omega)];simp;omega
  ·rw[if_neg hi,if_neg hi,if_neg (show ¬(i=0/\0<ps.length) by omega)]
   exact⟨fun t ht=>by simp at ht,by simp,rfl,rfl⟩
theorem WO {ps:PL} {L:Nat} (h:ps.length<=4+L) (hL:0<L):MOk 1 (leafM ps)/\wtL 1 (leafM ps).1<=1+L:=by
 unfold leafM;by_cases h4:ps.length<=4
 ·rw[if_pos h4]
  exact⟨MOk.one (QA h4),by simp only[G7,wt,Ds,if_true];omega⟩
 ·rw[if_neg h4]
  obtain⟨k1,k2,k3,k4⟩:=YA ps ps.length 0 (by omega) (by omega)
  rw[if_pos ⟨rfl,by omega⟩] at k4
  exact⟨⟨k4,k1⟩,by simp only;rw[k3];omega⟩

theorem Yt {d:Nat} {m:TM} (hm:MOk d m):∀n i,m.1.length-i<=n->(2<=m.1.length-i∨m.1.length<=i)->(∀t∈pkT m i,shT (d+1) t)/\(pkT m i).length*2<=m.1.length-i/\wtL (d+1) (pkT m i)=wtL d (m.1.drop i)/\(pkC m i).length+(if i=0/\0<m.1.length then 1 else 0)=(pkT m i).length:=by
 intro n;induction n with
 |zero=>
  intro i h h2;rw[Kf,I5,if_neg (show ¬i<m.1.length by omega),if_neg (show ¬i<m.1.length by omega),if_neg (show ¬(i=0/\0<m.1.length) by omega),List.drop_eq_nil_of_le (by omega)]
  exact⟨fun t ht=>by simp at ht,by simp,rfl,rfl⟩
 |succ n ih=>
  intro i h h2;rw[Kf,I5]
  by_cases hi:i<m.1.length
  ·rw[if_pos hi,if_pos hi]
   have hmn:=Bs (m.1.length-i)
   obtain⟨k1,k2,k3,k4⟩:=ih (i+AE (m.1.length-i)) (by omega) (by
    rcases hmn with e|⟨e,e2⟩
    ·rw[e]
     have:AE (m.1.length-i)≠3:=by omega
     have:m.1.length-i≠3:=fun h3=>by rw[h3] at this;exact this rfl
     omega
    ·omega)
   refine⟨fun t ht=> ?_, ?_, ?_, ?_⟩
   ·rcases List.mem_cons.1 ht with rfl|ht
    ·refine .inr ⟨rfl,rfl, ?_, ?_, ?_,Nat.zero_le _,fun u hu=> ?_⟩
     ·simp[FN];omega
     ·simp[FN];omega
     ·have:=hm.1
      simp[FN];omega
     ·exact hm.2 u (List.mem_of_mem_drop (List.mem_of_mem_take hu))
    ·exact k1 t ht
   ·simp only[List.length_cons];omega
   ·rw[H4,k3,show wt (d+1) (FN m i)=wtL d ((m.1.drop i).take (AE (m.1.length-i))) by simp[wt,FN,wtL], ← Dh]
    rw[show m.1.drop (i+AE (m.1.length-i))=(m.1.drop i).drop (AE (m.1.length-i)) by rw[List.drop_drop],List.take_append_drop]
   ·simp only[List.length_cons,List.length_append]
    rw[if_neg (by omega)] at k4
    by_cases h0:i=0
    ·subst h0;simp[hi] at *;omega
    ·rw[if_pos (Nat.pos_of_ne_zero h0),if_neg (by omega)];simp;omega
  ·rw[if_neg hi,if_neg hi,if_neg (show ¬(i=0/\0<m.1.length) by omega),List.drop_eq_nil_of_le (by omega)]
   exact⟨fun t ht=>by simp at ht,by simp,rfl,rfl⟩
theorem H7 {d:Nat} {m:TM} (hm:MOk d m) (h2:2<=m.1.length):MOk (d+1) (CP m)/\wtL (d+1) (CP m).1=wtL d m.1/\(CP m).1.length*2<=m.1.length:=by
 obtain⟨k1,k2,k3,k4⟩:=Yt hm m.1.length 0 (by omega) (by omega)
 rw[if_pos ⟨rfl,by omega⟩] at k4
 exact⟨⟨k4,k1⟩,k3,k2⟩

theorem Hj {d:Nat} {m x:TM} {i:Nat} (hm:MOk d m) (hx:MOk d x) (hi:i<m.1.length):MOk d (BD m i x)/\wtL d (BD m i x).1+wt d (m.1.getD i Aj)=wtL d m.1+wtL d x.1/\(BD m i x).1.length+1=m.1.length+x.1.length:=by
 obtain⟨h1,h2⟩:=hm
 obtain⟨h3,h4⟩:=hx
 refine⟨⟨?_,fun t ht=> ?_⟩, ?_, ?_⟩
 ·simp[BD];omega
 ·simp only[BD,List.mem_append] at ht
  rcases ht with(ht|ht)|ht
  ·exact h2 t (List.mem_of_mem_take ht)
  ·exact h4 t ht
  ·exact h2 t (List.mem_of_mem_drop ht)
 ·have e:m.1=m.1.take i++[m.1.getD i Aj]++m.1.drop (i+1):=by
   have:m.1.getD i Aj=m.1[i]:=by simp[List.getD,hi]
   rw[this,List.append_assoc,List.singleton_append, ← List.drop_eq_getElem_cons hi,List.take_append_drop]
  have e2:wtL d m.1=wtL d (m.1.take i)+wt d (m.1.getD i Aj)+wtL d (m.1.drop (i+1)):=by
   conv=>lhs;rw[e]
   rw[Dh,Dh,G7]
  rw[e2,BD]
  simp only
  rw[Dh,Dh]
  omega
 ·simp[BD];omega

theorem OI {d:Nat} {m:TM} (f:Nat->TM) (a:Nat->Nat) (hf:∀i,i<m.1.length->MOk d (f i)/\wtL d (f i).1<=wt d (m.1.getD i Aj)+a i) :
  ∀k,k<=m.1.length->(∀t∈AU f k,shT d t)/\(Cx f m.2 k).length+(if k=0 then 0 else 1)=(AU f k).length/\wtL d (AU f k)<=wtL d (m.1.take k)+((List.range k).map a).sum/\k<=(AU f k).length:=by
 intro k;induction k with
 |zero=>intro _;exact⟨fun t ht=>by simp[AU] at ht,rfl,by simp[AU,wtL],Nat.le_refl _⟩
 |succ k ih=>
  intro hk;obtain⟨k1,k2,k3,k4⟩:=ih (by omega)
  obtain⟨⟨f1,f2⟩,f3⟩:=hf k (by omega)
  refine⟨fun t ht=> ?_, ?_, ?_, ?_⟩
  ·rcases List.mem_append.1 ht with ht|ht
   ·exact k1 t ht
   ·exact f2 t ht
  ·simp only[Cx,AU,List.length_append]
   rw[if_neg (Nat.succ_ne_zero k)]
   by_cases h0:k=0
   ·subst h0;simp[Cx,AU] at *;omega
   ·rw[if_neg h0] at k2
    rw[if_pos (Nat.pos_of_ne_zero h0)];simp;omega
  ·rw[AU,Dh,List.take_succ_eq_append_getElem (show k<m.1.length by omega),Dh,G7,List.range_succ,List.map_append,List.sum_append]
   rw[show m.1.getD k Aj=m.1[k] by simp[List.getD,show k<m.1.length by omega]] at f3
   simp only[List.map_cons,List.map_nil,List.sum_cons,List.sum_nil]
   omega
  ·simp only[AU,List.length_append];omega
theorem WJ {d:Nat} {m:TM} (hm:MOk d m) (f:Nat->TM) (a:Nat->Nat) (hf:∀i,i<m.1.length->MOk d (f i)/\wtL d (f i).1<=wt d (m.1.getD i Aj)+a i):MOk d (GW f m)/\wtL d (GW f m).1<=wtL d m.1+((List.range m.1.length).map a).sum/\m.1.length<=(GW f m).1.length:=by
 obtain⟨k1,k2,k3,k4⟩:=OI f a hf m.1.length (Nat.le_refl _)
 have:=hm.1
 rw[if_neg (by omega)] at k2
 rw[List.take_of_length_le (Nat.le_refl _)] at k3
 exact⟨⟨k2,k1⟩,k3,k4⟩
theorem LZ (g:Tr->ML->TM) (m:TM) (b:ML):CM g m b=GW (Cz g m b) m:=rfl

def Ot (d:Nat) (g:Tr->ML->TM):Prop:=∀T ms,shT d T->0<ms.length->MOk d (g T ms)/\wtL d (g T ms).1<=wt d T+ms.length
theorem Fs (cs:List Int) (b:ML):∀n,((List.range n).map fun i=>(Ao cs i b).length).sum=G6 cs b n
 |0=>rfl
 |n+1=>by rw[List.range_succ,List.map_append,List.sum_append,Fs cs b n];simp[G6]
theorem Lc {d:Nat} {g:Tr->ML->TM} (hg:Ot d g) {m:TM} (hm:MOk d m) (b:ML):∀i,i<m.1.length->MOk d (Cz g m b i)/\wtL d (Cz g m b i).1<=wt d (m.1.getD i Aj)+(Ao m.2 i b).length:=by
 intro i hi;unfold Cz;by_cases h:0<(Ao m.2 i b).length
 ·rw[if_pos h]
  exact hg _ _ (hm.2 _ (Cy hi)) h
 ·rw[if_neg h]
  exact⟨MOk.one (hm.2 _ (Cy hi)),by simp only[G7];omega⟩
theorem Hv {d:Nat} {g:Tr->ML->TM} (hg:Ot d g) {m:TM} (hm:MOk d m) (b:ML):MOk d (CM g m b)/\wtL d (CM g m b).1<=wtL d m.1+b.length/\m.1.length<=(CM g m b).1.length:=by
 obtain⟨k1,k2,k3⟩:=WJ hm (Cz g m b) (fun i=>(Ao m.2 i b).length) (Lc hg hm b)
 rw[Fs] at k2
 have:=IW m.2 b m.1.length
 rw[LZ]
 exact⟨k1,by omega,k3⟩

theorem LQ {d:Nat} {g:Tr->ML->TM} (hg:Ot d g):∀f m b,MOk d m->b.length<=f->MOk d (Bt g f m b).1/\wtL d (Bt g f m b).1.1+(Bt g f m b).2.length<=wtL d m.1+b.length/\m.1.length<=(Bt g f m b).1.1.length/\(Bt g f m b).2.length<=6
 |0,m,b,hm,hb=>⟨hm,Nat.le_refl _,Nat.le_refl _,by simp only[Bt];omega⟩
 |f+1,m,b,hm,hb=>by
  rw[Bt]
  by_cases h:6<b.length
  ·rw[if_pos h]
   have hp:=Fe (cs:=m.2) (b:=b) (n:=m.1.length) (by omega) (by have:=hm.1;omega)
   have hi:=(Do m.2 b m.1.length (by have:=hm.1;omega)).1
   generalize (Ah m.2 b m.1.length).1=i at *
   have hk:=hg _ _ (hm.2 _ (Cy hi)) hp
   have hmr:=EL m.2 i b
   have hpm:=Hj hm hk.1 hi
   have hlen:=hk.1.1
   obtain⟨k1,k2,k3,k4⟩:=LQ hg f _ (AY m.2 i b) hpm.1 (by omega)
   exact⟨k1,by omega,by omega,k4⟩
  ·rw[if_neg h]
   exact⟨hm,Nat.le_refl _,Nat.le_refl _,by simp only;omega⟩

theorem Ce:∀d,Ot d (Ad d)
 |0=>fun _ _ h _=>h.elim
 |d+1=>fun T ms h hms=>by
  rcases h with⟨h1,rfl,h2,_⟩|⟨h1,_,h2,h3,h4,h5,h6⟩
  ·rw[Ad,if_pos h1]
   have:=Fy T.pairs ms
   obtain⟨k1,k2⟩:=WO (ps:=Cg T.pairs ms) (L:=ms.length) (by omega) hms
   exact⟨k1,by rw[wt,if_pos h1];exact k2⟩
  ·rw[Ad,if_neg (by rw[h1];simp)]
   have hl:=Gn (T.buf++ms)
   rw[List.length_append] at hl
   obtain⟨k1,k2,k3,k4⟩:=LQ (Ce d) _ (T.kids,T.cuts) (Av (T.buf++ms)) ⟨h4,h6⟩ (Nat.le_refl _)
   generalize Bt (Ad d) (Av (T.buf++ms)).length (T.kids,T.cuts) (Av (T.buf++ms))=r at *
   have hw:wt (d+1) T=wtL d T.kids+T.buf.length:=by rw[wt,if_neg (by rw[h1];simp)];rfl
   simp only at k2 k3
   unfold Iw;by_cases hr:4<r.1.1.length
   ·rw[if_pos hr]
    obtain⟨q1,q2,q3⟩:=Hv (Ce d) k1 r.2
    obtain⟨p1,p2,_⟩:=H7 q1 (by omega)
    exact⟨p1,by omega⟩
   ·rw[if_neg hr]
    refine⟨MOk.one (.inr ⟨rfl,rfl,by simp only;omega,by simp only;omega,k1.1,k4,k1.2⟩), ?_⟩
    rw[G7,wt,if_neg (by simp)]
    show wtL d r.1.1+r.2.length<=_
    omega

theorem Qw:∀f d m,MOk d m->m.1.length<=f->∃e,d<=e/\e<=d+f/\shT e (B9 f m)/\wt e (B9 f m)<=wtL d m.1
 |0,d,m,hm,hf=>absurd hm.1 (by omega)
 |f+1,d,m,hm,hf=>by
  rw[B9]
  by_cases h:4<m.1.length
  ·rw[if_pos h]
   obtain⟨p1,p2,p3⟩:=H7 hm (by omega)
   obtain⟨e,e1,e2,e3,e4⟩:=Qw f (d+1) (CP m) p1 (by omega)
   exact⟨e,by omega,by omega,e3,by omega⟩
  ·rw[if_neg h]
   by_cases h1:m.1.length=1
   ·rw[if_pos h1]
    refine⟨d,Nat.le_refl _,by omega,hm.2 _ (Cy (by omega)), ?_⟩
    match hm1:m.1 with
    |[]=>rw[hm1] at h1;simp at h1
    |[t]=>simp[wtL]
    |_::_::_=>rw[hm1] at h1;simp at h1
   ·rw[if_neg h1]
    have:=hm.1
    refine⟨d+1,by omega,by omega, .inr ⟨rfl,rfl,by simp only;omega,by simp only;omega,hm.1,Nat.zero_le _,hm.2⟩, ?_⟩
    rw[wt,if_neg (by simp)]
    exact Nat.le_refl _

theorem Ks {d:Nat}:∀ {ts:List Tr},(∀t∈ts,AQ d t+3<=7*wt d t)->(ts.map (AQ d)).sum+3*ts.length<=7*(ts.map (wt d)).sum
 |[],_=>by simp
 |t::l,h=>by
  have h1:=h t (by simp)
  have h2:=Ks (ts:=l) (fun u hu=>h u (by simp[hu]))
  simp only[List.map_cons,List.sum_cons,List.length_cons]
  omega
theorem T9:∀d T,shT d T->AQ d T+3<=7*wt d T
 |0,_,h=>h.elim
 |d+1,T,h=>by
  rcases h with⟨h1,rfl,h2,h3,h4,h5⟩|⟨h1,h0,h2,h3,h4,h5,h6⟩
  ·rw[wt,if_pos h1,AQ,h3,h4,h5]
   simp
   omega
  ·rw[wt,if_neg (by rw[h1];simp),AQ,h0]
   have:=Ks (fun t ht=>T9 d t (h6 t ht))
   simp only[List.length_nil]
   omega
theorem Ko {d c:Nat}:∀ {ts:List Tr},(∀t∈ts,wt d t+2<=c)->(ts.map (wt d)).sum+2*ts.length<=ts.length*c
 |[],_=>by simp
 |t::l,h=>by
  have h1:=h t (by simp)
  have h2:=Ko (ts:=l) (fun u hu=>h u (by simp[hu]))
  simp only[List.map_cons,List.sum_cons,List.length_cons,Nat.add_mul,Nat.one_mul]
  omega
theorem Yd:∀d T,shT d T->wt d T+2<=3*4^d
 |0,_,h=>h.elim
 |d+1,T,h=>by
  rcases h with⟨h1,rfl,_⟩|⟨h1,h0,h2,h3,h4,h5,h6⟩
  ·rw[wt,if_pos h1];decide
  ·rw[wt,if_neg (by rw[h1];simp),Nat.pow_succ]
   have h7:=Ko (fun t ht=>Yd d t (h6 t ht))
   have h8:T.kids.length*(3*4^d)<=4*(3*4^d):=Nat.mul_le_mul_right _ h3
   have h9:2<=3*4^d:=by have:0<4^d:=Nat.pow_pos (by decide);omega
   rcases(show T.kids.length=2∨T.kids.length=3∨T.kids.length=4 by omega) with e|e|e<;>rw[e] at h7<;>omega

theorem GG:∀ {m:Nat} {T:Tr} {lo up:Int},AG m T lo up≠0->shT (AG m T lo up) T
 |0,_,_,_,h=>absurd rfl h
 |m+1,T,lo,up,h=>by
  cases hl:T.leaf
  ·have hk:=Bj h hl
   have hp:=Bv hk.1
   have e:=Dv (m:=m) hl hk.1
   have he:=F9 (d:=CD m T lo up) (n:=T.kids.length) (hk.2 0 (by omega)) (fun i hi=>by
    rcases Nat.decEq (CD m T lo up i) (CD m T lo up 0) with hne|he
    ·exact absurd (e.trans (GQ hi hne)) h
    ·exact he)
   rw[e,he]
   refine .inr ⟨hl,hp.1,hp.2.1.1,hp.2.1.2,hp.2.2.1,hp.2.2.2.1,fun t ht=> ?_⟩
   obtain⟨i,hi,rfl⟩:=List.getElem_of_mem ht
   have h1:=GG (hk.2 i hi)
   have h2:CD m T lo up i=CD m T lo up 0:=by
    rcases Nat.decEq (CD m T lo up i) (CD m T lo up 0) with hne|he
    ·exact absurd (e.trans (GQ hi hne)) h
    ·exact he
   rw[←h2]
   have h3:Bb T i=T.kids[i]:=by simp[Bb,List.getD,hi]
   rw[←h3]
   exact h1
  ·have hp:=Cq (Bl h hl)
   have e:=Dg (m:=m) (lo:=lo) (hi:=up) hl
   rw[if_pos (Bl h hl)] at e
   rw[e]
   exact .inl ⟨hl,rfl,hp.2.1,hp.2.2.2.2.1,hp.2.2.1,hp.2.2.2.1⟩
end
section
open Go.RowKit

theorem Ga (l:ML):∀y∈Ag l,y.oneCell' =true:=by
 induction l with
 |nil=>intro y hy;simp[Ag] at hy
 |cons p l ih=>
  intro y hy;rw[EJ] at hy
  rcases List.mem_cons.1 hy with rfl|hy
  ·rfl
  ·rcases List.mem_cons.1 hy with rfl|hy
   ·rfl
   ·rcases List.mem_cons.1 hy with rfl|hy
    ·rfl
    ·exact ih y hy
theorem JW (a b c:Int):∀u∈[Value.int .i64 a,Value.int .i64 b,Value.int .i64 c],u.oneCell' =true:=by
 intro u hu;simp at hu;rcases hu with rfl|rfl|rfl<;>rfl
end
section
open Go.RowKit

def Em (w:World) (b:Nat):Prop:=∃(c:Array Value) (t:Nat),w.heap[b]? =some (.cells c t (0,0))
theorem Em.lt {w:World} {b:Nat} (h:Em w b):b<w.heap.size:=by
 obtain⟨c,t,h⟩:=h
 exact(Array.getElem?_eq_some_iff.1 h).1
def Ap (w:World) (F:Nat->Prop) (v:Value) (n:Nat) (xs:List Value):Prop:=
 ∃(a:Option Addr) (b off cap:Nat),v= .slice a n cap/\n<=cap/\cap<=maxLen/\(0<n->a=some ⟨b,off,none⟩/\F b/\Em w b)/\(∀j u,xs[j]? =some u->w.cell? ⟨b,off+j,none⟩=some u)/\(a=none->cap=0)/\(n=0->xs=[])
theorem Ap.row {w:World} {F:Nat->Prop} {v:Value} {n:Nat} {xs:List Value} (h:Ap w F v n xs):Row w v n xs:=by
 obtain⟨a,b,off,cap,h1,h2,h3,h4,h5,h6,_⟩:=h
 exact⟨a,b,off,cap,h1,h2,h3,fun hn=>(h4 hn).1,h5,h6⟩
theorem Ap.mono {w:World} {F G:Nat->Prop} {v:Value} {n:Nat} {xs:List Value} (h:Ap w F v n xs) (hFG:∀g,F g->G g):Ap w G v n xs:=by
 obtain⟨a,b,off,cap,h1,h2,h3,h4,h5,h6,h7⟩:=h
 exact⟨a,b,off,cap,h1,h2,h3,fun hn=>⟨(h4 hn).1,hFG _ (h4 hn).2.1,(h4 hn).2.2⟩,h5,h6,h7⟩
theorem Ap.frame {w w' :World} {F:Nat->Prop} {v:Value} {n:Nat} {xs:List Value} (h:Ap w F v n xs) (hf:∀g,F g->g<w.heap.size->w'.heap[g]? =w.heap[g]?):Ap w' F v n xs:=by
 obtain⟨a,b,off,cap,h1,h2,h3,h4,h5,h6,h7⟩:=h
 refine⟨a,b,off,cap,h1,h2,h3,fun hn=>⟨(h4 hn).1,(h4 hn).2.1, ?_⟩,fun j u hj=> ?_,h6,h7⟩
 ·obtain⟨e1,e2,c,t,e3⟩:=h4 hn
  exact⟨c,t,(hf b e2 (Array.getElem?_eq_some_iff.1 e3).1).trans e3⟩
 have hc:=h5 j u hj
 rcases Nat.eq_zero_or_pos n with h0|h0
 ·rw[h7 h0] at hj;simp at hj
 ·rw[World.cell?_of_block (hf b (h4 h0).2.1 (Aa hc))]
  exact hc
theorem Ap.lt {w:World} {F:Nat->Prop} {v:Value} {n:Nat} {xs:List Value} (h:Ap w F v n xs) (_hx:0<n->xs≠[]):Ap w (fun g=>F g/\g<w.heap.size) v n xs:=by
 obtain⟨a,b,off,cap,h1,h2,h3,h4,h5,h6,h7⟩:=h
 exact⟨a,b,off,cap,h1,h2,h3,fun hn=>⟨(h4 hn).1,⟨(h4 hn).2.1,(h4 hn).2.2.lt⟩,(h4 hn).2.2⟩,h5,h6,h7⟩
theorem Ap.of_owns {w:World} {base e size n:Nat} {v:Value} {xs:List Value} (h:w.ownsRow base e size v n xs):Ap w (fun g=>v.ownBlock=some g) v n xs:=by
 have h0:=h
 obtain⟨hl,h|⟨g,cap,cur,rfl,hg,hh,hn,hcap,hsz,htake⟩⟩:=h
 ·obtain⟨rfl,rfl⟩:=h
  have hx:xs=[]:=by simpa using hl
  subst hx;exact⟨none,0,0,0,rfl,Nat.le_refl _,Nat.zero_le _,fun h=>absurd h (Nat.lt_irrefl _),fun j u hj=>by simp at hj,fun _=>rfl,fun _=>rfl⟩
 ·refine⟨some ⟨g,0,none⟩,g,0,cap,rfl,hn,hcap,fun _=>⟨rfl,rfl,_,_,hh⟩,fun j u hj=> ?_,(fun h=>by cases h),fun h=> ?_⟩
  ·have hlt:j<n*size:=by
    have:=(List.getElem?_eq_some_iff.1 hj).1
    omega
   rw[Nat.zero_add,h0.cellAt j hlt]
   exact hj
  ·subst h;exact List.length_eq_zero_iff.1 (by omega)
theorem Qg {xs:List Value} {i m size:Nat} (j:Nat):((xs.drop (i*size)).take (m*size))[j]? =if j<m*size then xs[i*size+j]? else none:=by
 rw[List.getElem?_take]
 split
 ·rw[List.getElem?_drop]
 ·rfl

theorem QH (l:List (Int × Int)):(l.length=0->Af l=[])/\(0<l.length->Af l≠[]):=by
 have:=Br l
 exact⟨fun h=>List.length_eq_zero_iff.1 (by omega),fun h e=>by rw[e] at this;simp at this;omega⟩
theorem De (l:List Int):(l.length=0->Ac l=[])/\(0<l.length->Ac l≠[]):=by
 have:=Bz l
 exact⟨fun h=>List.length_eq_zero_iff.1 (by omega),fun h e=>by rw[e] at this;simp at this;omega⟩
theorem WH (l:ML):(l.length=0->Ag l=[])/\(0<l.length->Ag l≠[]):=by
 have:=Dz l
 exact⟨fun h=>List.length_eq_zero_iff.1 (by omega),fun h e=>by rw[e] at this;simp at this;omega⟩
theorem H5 (l:List TV):(l.length=0->An l=[])/\(0<l.length->An l≠[]):=by
 have:=Bq l
 exact⟨fun h=>List.length_eq_zero_iff.1 (by omega),fun h e=>by rw[e] at this;simp at this;omega⟩

def Ay:Nat->World->(Nat->Prop)->TV->Tr->Prop
 |0,_,_,_,_=>False
 | n + 1, w, F, x, T => x.lf = T.leaf ∧ Ap w F x.p T.pairs.length (Af T.pairs) ∧ Ap w F x.c T.cuts.length (Ac T.cuts) ∧ Ap w F x.b T.buf.length (Ag T.buf) ∧
   ∃xs:List TV,xs.length=T.kids.length/\Ap w F x.k xs.length (An xs)/\∀i,i<xs.length->Ay n w F (Al xs i) (Bb T i)
def Ai (n:Nat) (w:World) (F:Nat->Prop) (v:Value) (ts:List Tr):Prop:=
 ∃xs:List TV,xs.length=ts.length/\Ap w F v xs.length (An xs)/\∀i,i<xs.length->Ay n w F (Al xs i) (ts.getD i Aj)
theorem Ay.treeAt:∀ {n:Nat} {w:World} {F:Nat->Prop} {x:TV} {T:Tr},Ay n w F x T->AH n w x T
 |0,_,_,_,_,h=>h
 |_+1,_,_,_,_,⟨h1,h2,h3,h4,xs,h5,h6,h7⟩=>⟨h1,h2.row,h3.row,h4.row,xs,h5,h6.row,fun i hi=>(h7 i hi).treeAt⟩
theorem Ay.mono:∀ {n:Nat} {w:World} {F G:Nat->Prop} {x:TV} {T:Tr},Ay n w F x T->(∀g,F g->G g)->Ay n w G x T
 |0,_,_,_,_,_,h,_=>h
 |_+1,_,_,_,_,_,⟨h1,h2,h3,h4,xs,h5,h6,h7⟩,k=>⟨h1,h2.mono k,h3.mono k,h4.mono k,xs,h5,h6.mono k,fun i hi=>(h7 i hi).mono k⟩
theorem Ay.frame:∀ {n:Nat} {w w' :World} {F:Nat->Prop} {x:TV} {T:Tr},Ay n w F x T->(∀g,F g->g<w.heap.size->w'.heap[g]? =w.heap[g]?)->Ay n w' F x T
 |0,_,_,_,_,_,h,_=>h
 |_+1,_,_,_,_,_,⟨h1,h2,h3,h4,xs,h5,h6,h7⟩,k=>⟨h1,h2.frame k,h3.frame k,h4.frame k,xs,h5,h6.frame k,fun i hi=>(h7 i hi).frame k⟩
theorem Ay.lt:∀ {n:Nat} {w:World} {F:Nat->Prop} {x:TV} {T:Tr},Ay n w F x T->Ay n w (fun g=>F g/\g<w.heap.size) x T
 |0,_,_,_,_,h=>h
 |_+1,_,_,_,_,⟨h1,h2,h3,h4,xs,h5,h6,h7⟩=>⟨h1,h2.lt (QH _).2,h3.lt (De _).2,h4.lt (WH _).2,xs,h5,h6.lt (H5 _).2,fun i hi=>(h7 i hi).lt⟩
theorem Ay.up:∀ {n:Nat} {w:World} {F:Nat->Prop} {x:TV} {T:Tr},Ay n w F x T->Ay (n+1) w F x T
 |0,_,_,_,_,h=>h.elim
 |_+1,_,_,_,_,⟨h1,h2,h3,h4,xs,h5,h6,h7⟩=>⟨h1,h2,h3,h4,xs,h5,h6,fun i hi=>(h7 i hi).up⟩
theorem Ay.le {n m:Nat} {w:World} {F:Nat->Prop} {x:TV} {T:Tr} (h:Ay n w F x T) (hm:n<=m):Ay m w F x T:=by
 induction hm with
 |refl=>exact h
 |step _ ih=>exact ih.up
theorem Ay.chg {n:Nat} {w w' :World} {F P:Nat->Prop} {x:TV} {T:Tr} (h:Ay n w F x T) (hc:Chg P w w') (hd:∀g,F g->¬P g):Ay n w' F x T:=h.frame fun g hg hl=>hc.block g hl (hd g hg)
theorem Ay.below {n:Nat} {w w' :World} {F:Nat->Prop} {x:TV} {T:Tr} (h:Ay n w F x T) (hb:Below w.heap.size w w'):Ay n w' F x T:=h.frame fun g _ hl=>hb.block g hl
theorem Ap.below {w w' :World} {F:Nat->Prop} {v:Value} {n:Nat} {xs:List Value} (h:Ap w F v n xs) (hb:Below w.heap.size w w'):Ap w' F v n xs:=h.frame fun g _ hl=>hb.block g hl
theorem Ap.chg {w w' :World} {F P:Nat->Prop} {v:Value} {n:Nat} {xs:List Value} (h:Ap w F v n xs) (hc:Chg P w w') (hd:∀g,F g->¬P g):Ap w' F v n xs:=h.frame fun g hg hl=>hc.block g hl (hd g hg)
theorem Ai.below {n:Nat} {w w' :World} {F:Nat->Prop} {v:Value} {ts:List Tr} (h:Ai n w F v ts) (hb:Below w.heap.size w w'):Ai n w' F v ts:=by
 obtain⟨xs,h1,h2,h3⟩:=h
 exact⟨xs,h1,h2.below hb,fun i hi=>(h3 i hi).below hb⟩
theorem Ai.chg {n:Nat} {w w' :World} {F P:Nat->Prop} {v:Value} {ts:List Tr} (h:Ai n w F v ts) (hc:Chg P w w') (hd:∀g,F g->¬P g):Ai n w' F v ts:=by
 obtain⟨xs,h1,h2,h3⟩:=h
 exact⟨xs,h1,h2.chg hc hd,fun i hi=>(h3 i hi).chg hc hd⟩
theorem Ai.mono {n:Nat} {w:World} {F G:Nat->Prop} {v:Value} {ts:List Tr} (h:Ai n w F v ts) (k:∀g,F g->G g):Ai n w G v ts:=by
 obtain⟨xs,h1,h2,h3⟩:=h
 exact⟨xs,h1,h2.mono k,fun i hi=>(h3 i hi).mono k⟩
theorem Ay.parts {n:Nat} {w:World} {F:Nat->Prop} {x:TV} {T:Tr} (h:Ay (n+1) w F x T) :
  x.lf=T.leaf/\Ap w F x.p T.pairs.length (Af T.pairs)/\Ap w F x.c T.cuts.length (Ac T.cuts)/\Ap w F x.b T.buf.length (Ag T.buf)/\Ai n w F x.k T.kids:=by
 obtain⟨h1,h2,h3,h4,xs,h5,h6,h7⟩:=h
 exact⟨h1,h2,h3,h4,xs,h5,h6,h7⟩
theorem Ay.mk {n:Nat} {w:World} {F:Nat->Prop} {x:TV} {T:Tr} (h1:x.lf=T.leaf) (h2:Ap w F x.p T.pairs.length (Af T.pairs)) (h3:Ap w F x.c T.cuts.length (Ac T.cuts)) (h4:Ap w F x.b T.buf.length (Ag T.buf)) (h5:Ai n w F x.k T.kids):Ay (n+1) w F x T:=by
 obtain⟨xs,h5,h6,h7⟩:=h5
 exact⟨h1,h2,h3,h4,xs,h5,h6,h7⟩
theorem Fq {n:Nat} {w:World} {F:Nat->Prop} {ts:List Tr} {xs:List TV} (h:∀i,i<xs.length->Ay n w F (Al xs i) (ts.getD i Aj)):∀y∈An xs,y.oneCell' =true:=by
 intro y hy;obtain⟨x,hx,hy2⟩:=List.mem_flatMap.1 hy
 obtain⟨i,hi,rfl⟩:=List.getElem_of_mem hx
 have:=h i hi
 have e:Al xs i=xs[i]:=by simp[Al,List.getD,hi]
 rw[e] at this
 obtain⟨a1,a2,a3,a4,c1,c2,c3,c4,hs⟩:=this.treeAt.shape
 rw[hs] at hy2
 simp[TV.cells] at hy2
 rcases hy2 with rfl|rfl|rfl|rfl|rfl<;>rfl

theorem Ap.nil (w:World) (F:Nat->Prop):Ap w F (.slice none 0 0) 0 []:=
 ⟨none,0,0,0,rfl,Nat.le_refl _,Nat.zero_le _,fun h=>absurd h (Nat.lt_irrefl _),fun j u hj=>by simp at hj,fun _=>rfl,fun _=>rfl⟩
theorem Ai.nil (n:Nat) (w:World) (F:Nat->Prop):Ai n w F (.slice none 0 0) []:=⟨[],rfl,Ap.nil w F,fun i hi=>by simp at hi⟩
end
section
open Go.RowKit

theorem AR {u:World} {B:Nat} {x0 x1 x2 x3 x4:Value} (h:At u B #[x0,x1,x2,x3,x4]) :
  u.cell? ⟨B,0,none⟩=some x0/\u.cell? ⟨B,1,none⟩=some x1/\u.cell? ⟨B,2,none⟩=some x2/\u.cell? ⟨B,3,none⟩=some x3/\u.cell? ⟨B,4,none⟩=some x4:=by
 have:=h.cells
 exact⟨by rw[this];rfl,by rw[this];rfl,by rw[this];rfl,by rw[this];rfl,by rw[this];rfl⟩
theorem At.stepB {u w' :World} {B N:Nat} {A:Array Value} (h:At u B A) (hb:Below N u w') (hN:B<N):At w' B A:=(hb.block B hN).trans h
theorem Ab {w w' :World} {N b o:Nat} {v:Value} (hb:Below N w w') (hN:b<N) (h:w.cell? ⟨b,o,none⟩=some v):w'.cell? ⟨b,o,none⟩=some v:=(hb.cell (p:=⟨b,o,none⟩) hN).trans h
end
section
open Go.RowKit

theorem At.chg {w w' :World} {L:Nat} {A:Array Value} {p:Nat->Prop} (h:At w L A) (hc:Chg p w w') (hp:¬p L):At w' L A:=
 (hc.block L (Array.getElem?_eq_some_iff.1 h).1 hp).trans h

theorem BG {u:World} {B:Nat} {x0 x1 x2 x3 x4:Value} (h:At u B #[x0,x1,x2,x3,x4]) :
  (u.cell? ⟨B,0,none⟩=some x0/\u.cell? ⟨B,1,none⟩=some x1/\u.cell? ⟨B,2,none⟩=some x2/\u.cell? ⟨B,3,none⟩=some x3/\u.cell? ⟨B,4,none⟩=some x4)∧
  (u.frozen? ⟨B,0,none⟩=false/\u.frozen? ⟨B,1,none⟩=false/\u.frozen? ⟨B,2,none⟩=false/\u.frozen? ⟨B,3,none⟩=false/\u.frozen? ⟨B,4,none⟩=false):=
 ⟨AR h,frozen_of_row u B 0 _ 29 h,frozen_of_row u B 1 _ 29 h,frozen_of_row u B 2 _ 29 h,frozen_of_row u B 3 _ 29 h,frozen_of_row u B 4 _ 29 h⟩

abbrev set5 (u:World) (L:Nat) (t0 t1 t2 t3 t4:Value):World:=((((u.setCell ⟨L,0,none⟩ t0).setCell ⟨L,1,none⟩ t1).setCell ⟨L,2,none⟩ t2).setCell ⟨L,3,none⟩ t3).setCell ⟨L,4,none⟩ t4
theorem At.set5 {u:World} {L:Nat} {x0 x1 x2 x3 x4:Value} (h:At u L #[x0,x1,x2,x3,x4]) (t0 t1 t2 t3 t4:Value):At (set5 u L t0 t1 t2 t3 t4) L #[t0,t1,t2,t3,t4]:=
 heap_setCell_same _ L 4 _ 29 t4 (heap_setCell_same _ L 3 _ 29 t3 (heap_setCell_same _ L 2 _ 29 t2 (heap_setCell_same _ L 1 _ 29 t1 (heap_setCell_same u L 0 _ 29 t0 h))))
theorem BE (u:World) (L:Nat) (t0 t1 t2 t3 t4:Value):Chg (fun g=>g=L) u (set5 u L t0 t1 t2 t3 t4):=
 (((((Chg.refl (fun g=>g=L) u).setAt L 0 rfl t0).setAt L 1 rfl t1).setAt L 2 rfl t2).setAt L 3 rfl t3).setAt L 4 rfl t4
end
end Go.Proofs.YtebglpllkjgjbaaGreat
