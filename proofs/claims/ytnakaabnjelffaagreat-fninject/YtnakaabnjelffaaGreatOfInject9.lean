/-
  What comes of a tree that is given messages, as plain functions; shapes and weights.
  Appending a list to a row of one's own, at a step of a region that draws its order.
  Rows and trees with the blocks that they lie in: what stays when other blocks are written.
  The contract of the model's l3Pending.
-/
import Derived.Test.YtnakaabnjelffaaGreatOfInject7
import Derived.Test.YtnakaabnjelffaaGreatOfInject8
import Derived.Test.YtnakaabnjelffaaGreatOfInject2
import Derived.Deep.RegionHeld3
import Derived.Deep.AppendLies
import Derived.Test.YtnakaabnjelffaaGreatOfInject4
import Derived.Test.YtnakaabnjelffaaGreatOfInject6
namespace Go.Proofs.YtnakaabnjelffaaGreat
set_option maxRecDepth 100000
set_option maxHeartbeats 8000000
section
open Go.RowKit

abbrev TM:=List Tr × List Int

def Ar (cs:List Int) (i:Nat) (b:ML):ML:=b.filter fun m=>decide (AN cs m.2.1=i)
def AZ (cs:List Int) (i:Nat) (b:ML):ML:=b.filter fun m=> !decide (AN cs m.2.1=i)
theorem Lz (cs:List Int) (i:Nat) (b:ML) (j:Nat) (h:j<b.length):Ar cs i (b.take (j+1))=if AN cs (mK b j)=i then Ar cs i (b.take j)++[(mO b j,mK b j,mV b j)] else Ar cs i (b.take j):=by
 rw[DZ b j h,Ar,List.filter_append]
 by_cases hq:AN cs (mK b j)=i
 ·rw[if_pos hq];simp[Ar,hq]
 ·rw[if_neg hq];simp[Ar,hq]
theorem My (cs:List Int) (i:Nat) (b:ML) (j:Nat) (h:j<b.length):AZ cs i (b.take (j+1))=if AN cs (mK b j)=i then AZ cs i (b.take j) else AZ cs i (b.take j)++[(mO b j,mK b j,mV b j)]:=by
 rw[DZ b j h,AZ,List.filter_append]
 by_cases hq:AN cs (mK b j)=i
 ·rw[if_pos hq];simp[AZ,hq]
 ·rw[if_neg hq];simp[AZ,hq]
theorem EP (cs:List Int) (i:Nat) (b:ML):(Ar cs i b).length+(AZ cs i b).length=b.length:=by
 induction b with
 |nil=>rfl
 |cons a l ih=>
  unfold Ar AZ at *
  by_cases h:AN cs a.2.1=i<;>simp[h]<;>omega
theorem Cy (cs:List Int) (i:Nat) (b:ML):(Ar cs i b).length<=b.length:=List.length_filter_le _ _
theorem JY (cs:List Int) (i:Nat) (b:ML):(AZ cs i b).length<=b.length:=List.length_filter_le _ _
def Hr (cs:List Int) (b:ML):Nat->Nat
 |0=>0
 |k+1=>Hr cs b k+(Ar cs k b).length
theorem Ji (cs:List Int) (b:ML) (n:Nat):Hr cs b n<=b.length:=by
 have key:∀n,Hr cs b n=(b.filter fun m=>decide (AN cs m.2.1<n)).length:=by
  intro n;induction n with
  |zero=>
   rw[Hr,List.filter_eq_nil_iff.2 (fun a _=>by simp)]
   rfl
  |succ n ih=>
   rw[Hr,ih,Ar]
   clear ih;induction b with
   |nil=>rfl
   |cons a l ih=>
    rcases Nat.lt_trichotomy (AN cs a.2.1) n with h|h|h
    ·simp[show AN cs a.2.1<n from h,show ¬AN cs a.2.1=n by omega,show AN cs a.2.1<n+1 by omega];omega
    ·simp[h];omega
    ·simp[show ¬AN cs a.2.1<n by omega,show ¬AN cs a.2.1=n by omega,show ¬AN cs a.2.1<n+1 by omega];omega
 rw[key]
 exact List.length_filter_le _ _

def Ak (cs:List Int) (b:ML):Nat->Nat × Int
 |0=>(0, -1)
 |k+1=>if (Ak cs b k).2<((Ar cs k b).length:Int) then (k,((Ar cs k b).length:Int)) else Ak cs b k
theorem Dl (cs:List Int) (b:ML):∀n,0<n->(Ak cs b n).1<n/\(Ak cs b n).2=((Ar cs (Ak cs b n).1 b).length:Int):=by
 intro n hn;induction n with
 |zero=>omega
 |succ n ih=>
  rw[Ak]
  by_cases h:(Ak cs b n).2<((Ar cs n b).length:Int)
  ·rw[if_pos h];exact⟨Nat.lt_succ_self _,rfl⟩
  ·rw[if_neg h]
   rcases Nat.eq_zero_or_pos n with h0|h0
   ·subst h0;exfalso
    apply h
    simp only[Ak]
    omega
   ·exact⟨Nat.lt_succ_of_lt (ih h0).1,(ih h0).2⟩
theorem Ks (cs:List Int) (b:ML):∀n i,i<n->((Ar cs i b).length:Int)<=(Ak cs b n).2:=by
 intro n;induction n with
 |zero=>intro i h;omega
 |succ n ih=>
  intro i hi;rw[Ak]
  by_cases h:(Ak cs b n).2<((Ar cs n b).length:Int)
  ·rw[if_pos h]
   by_cases hin:i=n
   ·subst hin;exact Int.le_refl _
   ·have:=ih i (by omega)
    simp only
    omega
  ·rw[if_neg h]
   by_cases hin:i=n
   ·subst hin;omega
   ·exact ih i (by omega)
theorem UA (cs:List Int) (b:ML):∀n, -1<=(Ak cs b n).2/\(Ak cs b n).2<=b.length/\(Ak cs b n).1<=n:=by
 intro n;rcases Nat.eq_zero_or_pos n with h0|h0
 ·subst h0;simp[Ak]
 ·have:=Dl cs b n h0
  have:=Cy cs (Ak cs b n).1 b
  omega
theorem Fa {cs:List Int} {b:ML} {n:Nat} (hb:0<b.length) (hn:cs.length<n):0<(Ar cs (Ak cs b n).1 b).length:=by
 have h1:=(Dl cs b n (by omega)).2
 have h2:=Ks cs b n (AN cs (b[0]'hb).2.1) (by have:=G9 cs (b[0]'hb).2.1;omega)
 have h3:0<(Ar cs (AN cs (b[0]'hb).2.1) b).length:=by
  apply List.length_pos_of_mem (a:=b[0]'hb)
  exact List.mem_filter.2 ⟨List.getElem_mem hb,by simp⟩
 omega

def AM (r:Nat):Nat:=if r=3 then 3 else 2
theorem Br (r:Nat):AM r=2∨(AM r=3/\r=3):=by unfold AM;split<;>simp_all

def Dr (ps:PL):Tr:=⟨true,ps,[],[],[]⟩
def Nd (ps:PL):Nat->Nat->List Tr
 |0,_=>[]
 |f+1,i=>if i<ps.length then Dr ((ps.drop i).take (AM (ps.length-i)))::Nd ps f (i+AM (ps.length-i)) else []
def LF (ps:PL):Nat->Nat->List Int
 |0,_=>[]
 |f+1,i=>if i<ps.length then (if 0<i then [kOf ps i] else [])++LF ps f (i+AM (ps.length-i)) else []
def lfT (ps:PL) (i:Nat):List Tr:=Nd ps (ps.length-i) i
def lfC (ps:PL) (i:Nat):List Int:=LF ps (ps.length-i) i
theorem Kh (ps:PL):∀f g i,ps.length-i<=f->ps.length-i<=g->Nd ps f i=Nd ps g i
 |0,0,_,_,_=>rfl
 |0,g+1,i,h,_=>by rw[Nd,Nd,if_neg (by omega)]
 |f+1,0,i,_,h=>by rw[Nd,Nd,if_neg (by omega)]
 |f+1,g+1,i,hf,hg=>by
  have:=Br (ps.length-i)
  rw[Nd,Nd]
  split
  ·rw[Kh ps f g _ (by omega) (by omega)]
  ·rfl
theorem Kk (ps:PL):∀f g i,ps.length-i<=f->ps.length-i<=g->LF ps f i=LF ps g i
 |0,0,_,_,_=>rfl
 |0,g+1,i,h,_=>by rw[LF,LF,if_neg (by omega)]
 |f+1,0,i,_,h=>by rw[LF,LF,if_neg (by omega)]
 |f+1,g+1,i,hf,hg=>by
  have:=Br (ps.length-i)
  rw[LF,LF]
  split
  ·rw[Kk ps f g _ (by omega) (by omega)]
  ·rfl
theorem I7 (ps:PL) (i:Nat):lfT ps i=if i<ps.length then Dr ((ps.drop i).take (AM (ps.length-i)))::lfT ps (i+AM (ps.length-i)) else []:=by
 have h2:=Br (ps.length-i)
 unfold lfT;rw[Kh ps (ps.length-i) (ps.length-i+1) i (by omega) (by omega),Nd]
 split
 ·rw[Kh ps (ps.length-i) (ps.length-(i+AM (ps.length-i))) _ (by omega) (by omega)]
 ·rfl
theorem Ii (ps:PL) (i:Nat):lfC ps i=if i<ps.length then (if 0<i then [kOf ps i] else [])++lfC ps (i+AM (ps.length-i)) else []:=by
 have h2:=Br (ps.length-i)
 unfold lfC;rw[Kk ps (ps.length-i) (ps.length-i+1) i (by omega) (by omega),LF]
 split
 ·rw[Kk ps (ps.length-i) (ps.length-(i+AM (ps.length-i))) _ (by omega) (by omega)]
 ·rfl
def leafM (ps:PL):TM:=if ps.length<=4 then ([Dr ps],[]) else (lfT ps 0,lfC ps 0)

def FJ (m:TM) (i:Nat):Tr:=⟨false,[],(m.2.drop i).take (AM (m.1.length-i)-1),(m.1.drop i).take (AM (m.1.length-i)),[]⟩
def Jq (m:TM):Nat->Nat->List Tr
 |0,_=>[]
 |f+1,i=>if i<m.1.length then FJ m i::Jq m f (i+AM (m.1.length-i)) else []
def Mk (m:TM):Nat->Nat->List Int
 |0,_=>[]
 |f+1,i=>if i<m.1.length then (if 0<i then [iAt m.2 (i-1)] else [])++Mk m f (i+AM (m.1.length-i)) else []
def pkT (m:TM) (i:Nat):List Tr:=Jq m (m.1.length-i) i
def pkC (m:TM) (i:Nat):List Int:=Mk m (m.1.length-i) i
theorem Kg (m:TM):∀f g i,m.1.length-i<=f->m.1.length-i<=g->Jq m f i=Jq m g i
 |0,0,_,_,_=>rfl
 |0,g+1,i,h,_=>by rw[Jq,Jq,if_neg (by omega)]
 |f+1,0,i,_,h=>by rw[Jq,Jq,if_neg (by omega)]
 |f+1,g+1,i,hf,hg=>by
  have:=Br (m.1.length-i)
  rw[Jq,Jq]
  split
  ·rw[Kg m f g _ (by omega) (by omega)]
  ·rfl
theorem Ko (m:TM):∀f g i,m.1.length-i<=f->m.1.length-i<=g->Mk m f i=Mk m g i
 |0,0,_,_,_=>rfl
 |0,g+1,i,h,_=>by rw[Mk,Mk,if_neg (by omega)]
 |f+1,0,i,_,h=>by rw[Mk,Mk,if_neg (by omega)]
 |f+1,g+1,i,hf,hg=>by
  have:=Br (m.1.length-i)
  rw[Mk,Mk]
  split
  ·rw[Ko m f g _ (by omega) (by omega)]
  ·rfl
theorem Kl (m:TM) (i:Nat):pkT m i=if i<m.1.length then FJ m i::pkT m (i+AM (m.1.length-i)) else []:=by
 have h2:=Br (m.1.length-i)
 unfold pkT;rw[Kg m (m.1.length-i) (m.1.length-i+1) i (by omega) (by omega),Jq]
 split
 ·rw[Kg m (m.1.length-i) (m.1.length-(i+AM (m.1.length-i))) _ (by omega) (by omega)]
 ·rfl
theorem Jh (m:TM) (i:Nat):pkC m i=if i<m.1.length then (if 0<i then [iAt m.2 (i-1)] else [])++pkC m (i+AM (m.1.length-i)) else []:=by
 have h2:=Br (m.1.length-i)
 unfold pkC;rw[Ko m (m.1.length-i) (m.1.length-i+1) i (by omega) (by omega),Mk]
 split
 ·rw[Ko m (m.1.length-i) (m.1.length-(i+AM (m.1.length-i))) _ (by omega) (by omega)]
 ·rfl
def Co (m:TM):TM:=(pkT m 0,pkC m 0)

def Bb (m:TM) (i:Nat) (x:TM):TM:=(m.1.take i++x.1++m.1.drop (i+1),m.2.take i++x.2++m.2.drop i)

def AA (f:Nat->TM):Nat->List Tr
 |0=>[]
 |k+1=>AA f k++(f k).1
def BF (f:Nat->TM) (cs:List Int):Nat->List Int
 |0=>[]
 |k+1=>(BF f cs k++if 0<k then [iAt cs (k-1)] else [])++(f k).2
def Cv (g:Tr->ML->TM) (m:TM) (b:ML) (i:Nat):TM:=if 0<(Ar m.2 i b).length then g (m.1.getD i Ah) (Ar m.2 i b) else ([m.1.getD i Ah],[])
def Ba (g:Tr->ML->TM) (m:TM) (b:ML):TM:=(AA (Cv g m b) m.1.length,BF (Cv g m b) m.2 m.1.length)

def Bs (g:Tr->ML->TM):Nat->TM->ML->TM × ML
 |0,m,b=>(m,b)
 |f+1,m,b=>if 6<b.length then Bs g f (Bb m (Ak m.2 b m.1.length).1 (g (m.1.getD (Ak m.2 b m.1.length).1 Ah) (Ar m.2 (Ak m.2 b m.1.length).1 b))) (AZ m.2 (Ak m.2 b m.1.length).1 b) else (m,b)

def IE (g:Tr->ML->TM) (r:TM × ML):TM:=if 4<r.1.1.length then Co (Ba g r.1 r.2) else ([⟨false,[],r.1.2,r.1.1,r.2⟩],[])
def Ae:Nat->Tr->ML->TM
 |0,T,_=>([T],[])
 | d + 1, T, ms => if T.leaf = true then leafM (Cn T.pairs ms) else
   IE (Ae d) (Bs (Ae d) (AC (T.buf++ms)).length (T.kids,T.cuts) (AC (T.buf++ms)))

def Bw:Nat->TM->Tr
 |0,m=>m.1.getD 0 Ah
 |f+1,m=>if 4<m.1.length then Bw f (Co m) else if m.1.length=1 then m.1.getD 0 Ah else ⟨false,[],m.2,m.1,[]⟩

def BE (f:Nat->TM) (m:TM):TM:=(AA f m.1.length,BF f m.2 m.1.length)
def Bc (o:TM):TM:=if 4<o.1.length then Co o else ([⟨false,[],o.2,o.1,[]⟩],[])
def An:Nat->Tr->TM
 |0,T=>([T],[])
 | d + 1, T => if T.leaf = true then ([T], []) else
   Bc (BE (fun i=>An d ((Ba (Ae d) (T.kids,T.cuts) T.buf).1.getD i Ah)) (Ba (Ae d) (T.kids,T.cuts) T.buf))

def shT:Nat->Tr->Prop
 |0,_=>False
 | d + 1, T => (T.leaf = true ∧ d = 0 ∧ T.pairs.length ≤ 4 ∧ T.cuts = [] ∧ T.kids = [] ∧ T.buf = []) ∨
   (T.leaf=false/\T.pairs=[]/\2<=T.kids.length/\T.kids.length<=4/\T.cuts.length+1=T.kids.length/\T.buf.length<=6/\∀t∈T.kids,shT d t)
def wt:Nat->Tr->Nat
 |0,_=>0
 |d+1,T=>if T.leaf=true then 1 else (T.kids.map (wt d)).sum+T.buf.length
def wtL (d:Nat) (ts:List Tr):Nat:=(ts.map (wt d)).sum
theorem Dg (d:Nat) (a b:List Tr):wtL d (a++b)=wtL d a+wtL d b:=by simp[wtL,List.sum_append]
theorem F9 (d:Nat) (t:Tr):wtL d [t]=wt d t:=by simp[wtL]
theorem Ic (d:Nat) (t:Tr) (l:List Tr):wtL d (t::l)=wt d t+wtL d l:=by simp[wtL]
theorem Xg:∀ {d:Nat} {T:Tr},shT d T->1<=wt d T
 |0,_,h=>h.elim
 |d+1,T,h=>by
  rcases h with⟨h,_⟩|⟨h1,_,h2,_,_,_,h3⟩
  ·rw[wt,if_pos h];exact Nat.le_refl _
  ·rw[wt,if_neg (by rw[h1];simp)]
   match hk:T.kids with
   |[]=>rw[hk] at h2;simp at h2
   |t::l=>
    have:=Xg (h3 t (by rw[hk];simp))
    simp only[List.map_cons,List.sum_cons]
    omega
theorem AY {d:Nat}:∀ {ts:List Tr},(∀t∈ts,shT d t)->ts.length<=wtL d ts
 |[],_=>Nat.le_refl _
 |t::l,h=>by
  have:=Xg (h t (by simp))
  have:=AY (ts:=l) (fun u hu=>h u (by simp[hu]))
  rw[Ic]
  simp only[List.length_cons]
  omega

def MOk (d:Nat) (m:TM):Prop:=m.2.length+1=m.1.length/\∀t∈m.1,shT d t
theorem MOk.one {d:Nat} {t:Tr} (h:shT d t):MOk d ([t],[]):=⟨rfl,fun u hu=>by simp at hu;subst hu;exact h⟩
theorem Bd {l:List Tr} {i:Nat} (h:i<l.length):l.getD i Ah∈l:=by
 simp[List.getD,h]

theorem Q1 {ps:PL} (h:ps.length<=4):shT 1 (Dr ps):= .inl ⟨rfl,rfl,h,rfl,rfl,rfl⟩
theorem YO (ps:PL):∀n i,ps.length-i<=n->(2<=ps.length-i∨ps.length<=i)->(∀t∈lfT ps i,shT 1 t)/\(lfT ps i).length*2<=ps.length-i/\wtL 1 (lfT ps i)=(lfT ps i).length/\(lfC ps i).length+(if i=0/\0<ps.length then 1 else 0)=(lfT ps i).length:=by
 intro n;induction n with
 |zero=>
  intro i h h2;rw[I7,Ii,if_neg (show ¬i<ps.length by omega),if_neg (show ¬i<ps.length by omega),if_neg (show ¬(i=0/\0<ps.length) by omega)]
  exact⟨fun t ht=>by simp at ht,by simp,rfl,rfl⟩
 |succ n ih=>
  intro i h h2;rw[I7,Ii]
  by_cases hi:i<ps.length
  ·rw[if_pos hi,if_pos hi]
   have hm:=Br (ps.length-i)
   obtain⟨k1,k2,k3,k4⟩:=ih (i+AM (ps.length-i)) (by omega) (by
    rcases hm with e|⟨e,e2⟩
    ·rw[e]
     have:AM (ps.length-i)≠3:=by omega
     have:ps.length-i≠3:=fun h3=>by rw[h3] at this;exact this rfl
     omega
    ·omega)
   refine⟨fun t ht=> ?_, ?_, ?_, ?_⟩
   ·rcases List.mem_cons.1 ht with rfl|ht
    ·exact Q1 (by simp;omega)
    ·exact k1 t ht
   ·simp only[List.length_cons];omega
   ·rw[Ic,k3];simp[wt,Dr];omega
   ·simp only[List.length_cons,List.length_append]
    rw[if_neg (by omega)] at k4
    by_cases h0:i=0
    ·subst h0;simp[hi] at *;omega
    ·rw[if_pos (Nat.pos_of_ne_zero h0),if_neg (by omega)];simp;omega
  ·rw[if_neg hi,if_neg hi,if_neg (show ¬(i=0/\0<ps.length) by omega)]
   exact⟨fun t ht=>by simp at ht,by simp,rfl,rfl⟩
theorem WO {ps:PL} {L:Nat} (h:ps.length<=4+L) (hL:0<L):MOk 1 (leafM ps)/\wtL 1 (leafM ps).1<=1+L:=by
 unfold leafM;by_cases h4:ps.length<=4
 ·rw[if_pos h4]
  exact⟨MOk.one (Q1 h4),by simp only[F9,wt,Dr,if_true];omega⟩
 ·rw[if_neg h4]
  obtain⟨k1,k2,k3,k4⟩:=YO ps ps.length 0 (by omega) (by omega)
  rw[if_pos ⟨rfl,by omega⟩] at k4
  exact⟨⟨k4,k1⟩,by simp only;rw[k3];omega⟩

theorem YM {d:Nat} {m:TM} (hm:MOk d m):∀n i,m.1.length-i<=n->(2<=m.1.length-i∨m.1.length<=i)->(∀t∈pkT m i,shT (d+1) t)/\(pkT m i).length*2<=m.1.length-i/\wtL (d+1) (pkT m i)=wtL d (m.1.drop i)/\(pkC m i).length+(if i=0/\0<m.1.length then 1 else 0)=(pkT m i).length:=by
 intro n;induction n with
 |zero=>
  intro i h h2;rw[Kl,Jh,if_neg (show ¬i<m.1.length by omega),if_neg (show ¬i<m.1.length by omega),if_neg (show ¬(i=0/\0<m.1.length) by omega),List.drop_eq_nil_of_le (by omega)]
  exact⟨fun t ht=>by simp at ht,by simp,rfl,rfl⟩
 |succ n ih=>
  intro i h h2;rw[Kl,Jh]
  by_cases hi:i<m.1.length
  ·rw[if_pos hi,if_pos hi]
   have hmn:=Br (m.1.length-i)
   obtain⟨k1,k2,k3,k4⟩:=ih (i+AM (m.1.length-i)) (by omega) (by
    rcases hmn with e|⟨e,e2⟩
    ·rw[e]
     have:AM (m.1.length-i)≠3:=by omega
     have:m.1.length-i≠3:=fun h3=>by rw[h3] at this;exact this rfl
     omega
    ·omega)
   refine⟨fun t ht=> ?_, ?_, ?_, ?_⟩
   ·rcases List.mem_cons.1 ht with rfl|ht
    ·refine .inr ⟨rfl,rfl, ?_, ?_, ?_,Nat.zero_le _,fun u hu=> ?_⟩
     ·simp[FJ];omega
     ·simp[FJ];omega
     ·have:=hm.1
      simp[FJ];omega
     ·exact hm.2 u (List.mem_of_mem_drop (List.mem_of_mem_take hu))
    ·exact k1 t ht
   ·simp only[List.length_cons];omega
   ·rw[Ic,k3,show wt (d+1) (FJ m i)=wtL d ((m.1.drop i).take (AM (m.1.length-i))) by simp[wt,FJ,wtL], ← Dg]
    rw[show m.1.drop (i+AM (m.1.length-i))=(m.1.drop i).drop (AM (m.1.length-i)) by rw[List.drop_drop],List.take_append_drop]
   ·simp only[List.length_cons,List.length_append]
    rw[if_neg (by omega)] at k4
    by_cases h0:i=0
    ·subst h0;simp[hi] at *;omega
    ·rw[if_pos (Nat.pos_of_ne_zero h0),if_neg (by omega)];simp;omega
  ·rw[if_neg hi,if_neg hi,if_neg (show ¬(i=0/\0<m.1.length) by omega),List.drop_eq_nil_of_le (by omega)]
   exact⟨fun t ht=>by simp at ht,by simp,rfl,rfl⟩
theorem Fv {d:Nat} {m:TM} (hm:MOk d m) (h2:2<=m.1.length):MOk (d+1) (Co m)/\wtL (d+1) (Co m).1=wtL d m.1/\(Co m).1.length*2<=m.1.length:=by
 obtain⟨k1,k2,k3,k4⟩:=YM hm m.1.length 0 (by omega) (by omega)
 rw[if_pos ⟨rfl,by omega⟩] at k4
 exact⟨⟨k4,k1⟩,k3,k2⟩

theorem Hm {d:Nat} {m x:TM} {i:Nat} (hm:MOk d m) (hx:MOk d x) (hi:i<m.1.length):MOk d (Bb m i x)/\wtL d (Bb m i x).1+wt d (m.1.getD i Ah)=wtL d m.1+wtL d x.1/\(Bb m i x).1.length+1=m.1.length+x.1.length:=by
 obtain⟨h1,h2⟩:=hm
 obtain⟨h3,h4⟩:=hx
 refine⟨⟨?_,fun t ht=> ?_⟩, ?_, ?_⟩
 ·simp[Bb];omega
 ·simp only[Bb,List.mem_append] at ht
  rcases ht with(ht|ht)|ht
  ·exact h2 t (List.mem_of_mem_take ht)
  ·exact h4 t ht
  ·exact h2 t (List.mem_of_mem_drop ht)
 ·have e:m.1=m.1.take i++[m.1.getD i Ah]++m.1.drop (i+1):=by
   have:m.1.getD i Ah=m.1[i]:=by simp[List.getD,hi]
   rw[this,List.append_assoc,List.singleton_append, ← List.drop_eq_getElem_cons hi,List.take_append_drop]
  have e2:wtL d m.1=wtL d (m.1.take i)+wt d (m.1.getD i Ah)+wtL d (m.1.drop (i+1)):=by
   conv=>lhs;rw[e]
   rw[Dg,Dg,F9]
  rw[e2,Bb]
  simp only
  rw[Dg,Dg]
  omega
 ·simp[Bb];omega

theorem Lw {d:Nat} {m:TM} (f:Nat->TM) (a:Nat->Nat) (hf:∀i,i<m.1.length->MOk d (f i)/\wtL d (f i).1<=wt d (m.1.getD i Ah)+a i) :
  ∀k,k<=m.1.length->(∀t∈AA f k,shT d t)/\(BF f m.2 k).length+(if k=0 then 0 else 1)=(AA f k).length/\wtL d (AA f k)<=wtL d (m.1.take k)+((List.range k).map a).sum/\k<=(AA f k).length:=by
 intro k;induction k with
 |zero=>intro _;exact⟨fun t ht=>by simp[AA] at ht,rfl,by simp[AA,wtL],Nat.le_refl _⟩
 |succ k ih=>
  intro hk;obtain⟨k1,k2,k3,k4⟩:=ih (by omega)
  obtain⟨⟨f1,f2⟩,f3⟩:=hf k (by omega)
  refine⟨fun t ht=> ?_, ?_, ?_, ?_⟩
  ·rcases List.mem_append.1 ht with ht|ht
   ·exact k1 t ht
   ·exact f2 t ht
  ·simp only[BF,AA,List.length_append]
   rw[if_neg (Nat.succ_ne_zero k)]
   by_cases h0:k=0
   ·subst h0;simp[BF,AA] at *;omega
   ·rw[if_neg h0] at k2
    rw[if_pos (Nat.pos_of_ne_zero h0)];simp;omega
  ·rw[AA,Dg,List.take_succ_eq_append_getElem (show k<m.1.length by omega),Dg,F9,List.range_succ,List.map_append,List.sum_append]
   rw[show m.1.getD k Ah=m.1[k] by simp[List.getD,show k<m.1.length by omega]] at f3
   simp only[List.map_cons,List.map_nil,List.sum_cons,List.sum_nil]
   omega
  ·simp only[AA,List.length_append];omega
theorem H7 {d:Nat} {m:TM} (hm:MOk d m) (f:Nat->TM) (a:Nat->Nat) (hf:∀i,i<m.1.length->MOk d (f i)/\wtL d (f i).1<=wt d (m.1.getD i Ah)+a i):MOk d (BE f m)/\wtL d (BE f m).1<=wtL d m.1+((List.range m.1.length).map a).sum/\m.1.length<=(BE f m).1.length:=by
 obtain⟨k1,k2,k3,k4⟩:=Lw f a hf m.1.length (Nat.le_refl _)
 have:=hm.1
 rw[if_neg (by omega)] at k2
 rw[List.take_of_length_le (Nat.le_refl _)] at k3
 exact⟨⟨k2,k1⟩,k3,k4⟩
theorem LD (g:Tr->ML->TM) (m:TM) (b:ML):Ba g m b=BE (Cv g m b) m:=rfl

def Om (d:Nat) (g:Tr->ML->TM):Prop:=∀T ms,shT d T->0<ms.length->MOk d (g T ms)/\wtL d (g T ms).1<=wt d T+ms.length
theorem Ft (cs:List Int) (b:ML):∀n,((List.range n).map fun i=>(Ar cs i b).length).sum=Hr cs b n
 |0=>rfl
 |n+1=>by rw[List.range_succ,List.map_append,List.sum_append,Ft cs b n];simp[Hr]
theorem Lx {d:Nat} {g:Tr->ML->TM} (hg:Om d g) {m:TM} (hm:MOk d m) (b:ML):∀i,i<m.1.length->MOk d (Cv g m b i)/\wtL d (Cv g m b i).1<=wt d (m.1.getD i Ah)+(Ar m.2 i b).length:=by
 intro i hi;unfold Cv;by_cases h:0<(Ar m.2 i b).length
 ·rw[if_pos h]
  exact hg _ _ (hm.2 _ (Bd hi)) h
 ·rw[if_neg h]
  exact⟨MOk.one (hm.2 _ (Bd hi)),by simp only[F9];omega⟩
theorem Eu {d:Nat} {g:Tr->ML->TM} (hg:Om d g) {m:TM} (hm:MOk d m) (b:ML):MOk d (Ba g m b)/\wtL d (Ba g m b).1<=wtL d m.1+b.length/\m.1.length<=(Ba g m b).1.length:=by
 obtain⟨k1,k2,k3⟩:=H7 hm (Cv g m b) (fun i=>(Ar m.2 i b).length) (Lx hg hm b)
 rw[Ft] at k2
 have:=Ji m.2 b m.1.length
 rw[LD]
 exact⟨k1,by omega,k3⟩

theorem Mw {d:Nat} {g:Tr->ML->TM} (hg:Om d g):∀f m b,MOk d m->b.length<=f->MOk d (Bs g f m b).1/\wtL d (Bs g f m b).1.1+(Bs g f m b).2.length<=wtL d m.1+b.length/\m.1.length<=(Bs g f m b).1.1.length/\(Bs g f m b).2.length<=6
 |0,m,b,hm,hb=>⟨hm,Nat.le_refl _,Nat.le_refl _,by simp only[Bs];omega⟩
 |f+1,m,b,hm,hb=>by
  rw[Bs]
  by_cases h:6<b.length
  ·rw[if_pos h]
   have hp:=Fa (cs:=m.2) (b:=b) (n:=m.1.length) (by omega) (by have:=hm.1;omega)
   have hi:=(Dl m.2 b m.1.length (by have:=hm.1;omega)).1
   generalize (Ak m.2 b m.1.length).1=i at *
   have hk:=hg _ _ (hm.2 _ (Bd hi)) hp
   have hmr:=EP m.2 i b
   have hpm:=Hm hm hk.1 hi
   have hlen:=hk.1.1
   obtain⟨k1,k2,k3,k4⟩:=Mw hg f _ (AZ m.2 i b) hpm.1 (by omega)
   exact⟨k1,by omega,by omega,k4⟩
  ·rw[if_neg h]
   exact⟨hm,Nat.le_refl _,Nat.le_refl _,by simp only;omega⟩

theorem Bh:∀d,Om d (Ae d)
 |0=>fun _ _ h _=>h.elim
 |d+1=>fun T ms h hms=>by
  rcases h with⟨h1,rfl,h2,_⟩|⟨h1,_,h2,h3,h4,h5,h6⟩
  ·rw[Ae,if_pos h1]
   have:=Fy T.pairs ms
   obtain⟨k1,k2⟩:=WO (ps:=Cn T.pairs ms) (L:=ms.length) (by omega) hms
   exact⟨k1,by rw[wt,if_pos h1];exact k2⟩
  ·rw[Ae,if_neg (by rw[h1];simp)]
   have hl:=Gs (T.buf++ms)
   rw[List.length_append] at hl
   obtain⟨k1,k2,k3,k4⟩:=Mw (Bh d) _ (T.kids,T.cuts) (AC (T.buf++ms)) ⟨h4,h6⟩ (Nat.le_refl _)
   generalize Bs (Ae d) (AC (T.buf++ms)).length (T.kids,T.cuts) (AC (T.buf++ms))=r at *
   have hw:wt (d+1) T=wtL d T.kids+T.buf.length:=by rw[wt,if_neg (by rw[h1];simp)];rfl
   simp only at k2 k3
   unfold IE;by_cases hr:4<r.1.1.length
   ·rw[if_pos hr]
    obtain⟨q1,q2,q3⟩:=Eu (Bh d) k1 r.2
    obtain⟨p1,p2,_⟩:=Fv q1 (by omega)
    exact⟨p1,by omega⟩
   ·rw[if_neg hr]
    refine⟨MOk.one (.inr ⟨rfl,rfl,by simp only;omega,by simp only;omega,k1.1,k4,k1.2⟩), ?_⟩
    rw[F9,wt,if_neg (by simp)]
    show wtL d r.1.1+r.2.length<=_
    omega

theorem Fp:∀d T,shT d T->MOk d (An d T)/\wtL d (An d T).1<=wt d T
 |0,_,h=>h.elim
 |d+1,T,h=>by
  rcases h with⟨h1,rfl,h2,h3⟩|⟨h1,h0,h2,h3,h4,h5,h6⟩
  ·rw[An,if_pos h1]
   exact⟨MOk.one (.inl ⟨h1,rfl,h2,h3⟩),by rw[F9];exact Nat.le_refl _⟩
  ·rw[An,if_neg (by rw[h1];simp)]
   obtain⟨q1,q2,q3⟩:=Eu (Bh d) (m:=(T.kids,T.cuts)) ⟨h4,h6⟩ T.buf
   generalize Ba (Ae d) (T.kids,T.cuts) T.buf=m at *
   obtain⟨p1,p2,p3⟩:=H7 q1 (fun i=>An d (m.1.getD i Ah)) (fun _=>0) (fun i hi=>Fp d _ (q1.2 _ (Bd hi)))
   generalize BE (fun i=>An d (m.1.getD i Ah)) m=o at *
   have hw:wt (d+1) T=wtL d T.kids+T.buf.length:=by rw[wt,if_neg (by rw[h1];simp)];rfl
   have hz:((List.range m.1.length).map fun _=>0).sum=0:=by
    generalize m.1.length=n
    induction n with
    |zero=>rfl
    |succ n ih=>rw[List.range_succ,List.map_append,List.sum_append,ih];rfl
   simp only at q2 q3
   unfold Bc;by_cases hr:4<o.1.length
   ·rw[if_pos hr]
    obtain⟨r1,r2,_⟩:=Fv p1 (by omega)
    exact⟨r1,by omega⟩
   ·rw[if_neg hr]
    refine⟨MOk.one (.inr ⟨rfl,rfl,by simp only;omega,by simp only;omega,p1.1,Nat.zero_le _,p1.2⟩), ?_⟩
    rw[F9,wt,if_neg (by simp)]
    show wtL d o.1+0<=_
    omega

theorem Ke:∀f d m,MOk d m->m.1.length<=f->∃e,d<=e/\e<=d+f/\shT e (Bw f m)/\wt e (Bw f m)<=wtL d m.1
 |0,d,m,hm,hf=>absurd hm.1 (by omega)
 |f+1,d,m,hm,hf=>by
  rw[Bw]
  by_cases h:4<m.1.length
  ·rw[if_pos h]
   obtain⟨p1,p2,p3⟩:=Fv hm (by omega)
   obtain⟨e,e1,e2,e3,e4⟩:=Ke f (d+1) (Co m) p1 (by omega)
   exact⟨e,by omega,by omega,e3,by omega⟩
  ·rw[if_neg h]
   by_cases h1:m.1.length=1
   ·rw[if_pos h1]
    refine⟨d,Nat.le_refl _,by omega,hm.2 _ (Bd (by omega)), ?_⟩
    match hm1:m.1 with
    |[]=>rw[hm1] at h1;simp at h1
    |[t]=>simp[wtL]
    |_::_::_=>rw[hm1] at h1;simp at h1
   ·rw[if_neg h1]
    have:=hm.1
    refine⟨d+1,by omega,by omega, .inr ⟨rfl,rfl,by simp only;omega,by simp only;omega,hm.1,Nat.zero_le _,hm.2⟩, ?_⟩
    rw[wt,if_neg (by simp)]
    exact Nat.le_refl _

theorem Lc {d:Nat}:∀ {ts:List Tr},(∀t∈ts,Az d t+3<=7*wt d t)->(ts.map (Az d)).sum+3*ts.length<=7*(ts.map (wt d)).sum
 |[],_=>by simp
 |t::l,h=>by
  have h1:=h t (by simp)
  have h2:=Lc (ts:=l) (fun u hu=>h u (by simp[hu]))
  simp only[List.map_cons,List.sum_cons,List.length_cons]
  omega
theorem Ts:∀d T,shT d T->Az d T+3<=7*wt d T
 |0,_,h=>h.elim
 |d+1,T,h=>by
  rcases h with⟨h1,rfl,h2,h3,h4,h5⟩|⟨h1,h0,h2,h3,h4,h5,h6⟩
  ·rw[wt,if_pos h1,Az,h3,h4,h5]
   simp
   omega
  ·rw[wt,if_neg (by rw[h1];simp),Az,h0]
   have:=Lc (fun t ht=>Ts d t (h6 t ht))
   simp only[List.length_nil]
   omega
theorem KW {d c:Nat}:∀ {ts:List Tr},(∀t∈ts,wt d t+2<=c)->(ts.map (wt d)).sum+2*ts.length<=ts.length*c
 |[],_=>by simp
 |t::l,h=>by
  have h1:=h t (by simp)
  have h2:=KW (ts:=l) (fun u hu=>h u (by simp[hu]))
  simp only[List.map_cons,List.sum_cons,List.length_cons,Nat.add_mul,Nat.one_mul]
  omega
theorem Yf:∀d T,shT d T->wt d T+2<=3*4^d
 |0,_,h=>h.elim
 |d+1,T,h=>by
  rcases h with⟨h1,rfl,_⟩|⟨h1,h0,h2,h3,h4,h5,h6⟩
  ·rw[wt,if_pos h1];decide
  ·rw[wt,if_neg (by rw[h1];simp),Nat.pow_succ]
   have h7:=KW (fun t ht=>Yf d t (h6 t ht))
   have h8:T.kids.length*(3*4^d)<=4*(3*4^d):=Nat.mul_le_mul_right _ h3
   have h9:2<=3*4^d:=by have:0<4^d:=Nat.pow_pos (by decide);omega
   rcases(show T.kids.length=2∨T.kids.length=3∨T.kids.length=4 by omega) with e|e|e<;>rw[e] at h7<;>omega

theorem Du:∀ {m:Nat} {T:Tr} {lo up:Int},AG m T lo up≠0->shT (AG m T lo up) T
 |0,_,_,_,h=>absurd rfl h
 |m+1,T,lo,up,h=>by
  cases hl:T.leaf
  ·have hk:=Bm h hl
   have hp:=AW hk.1
   have e:=CD (m:=m) hl hk.1
   have he:=Fi (d:=Cu m T lo up) (n:=T.kids.length) (hk.2 0 (by omega)) (fun i hi=>by
    rcases Nat.decEq (Cu m T lo up i) (Cu m T lo up 0) with hne|he
    ·exact absurd (e.trans (G0 hi hne)) h
    ·exact he)
   rw[e,he]
   refine .inr ⟨hl,hp.1,hp.2.1.1,hp.2.1.2,hp.2.2.1,hp.2.2.2.1,fun t ht=> ?_⟩
   obtain⟨i,hi,rfl⟩:=List.getElem_of_mem ht
   have h1:=Du (hk.2 i hi)
   have h2:Cu m T lo up i=Cu m T lo up 0:=by
    rcases Nat.decEq (Cu m T lo up i) (Cu m T lo up 0) with hne|he
    ·exact absurd (e.trans (G0 hi hne)) h
    ·exact he
   rw[←h2]
   have h3:AV T i=T.kids[i]:=by simp[AV,List.getD,hi]
   rw[←h3]
   exact h1
  ·have hp:=Dz (Ce h hl)
   have e:=Cf (m:=m) (lo:=lo) (hi:=up) hl
   rw[if_pos (Ce h hl)] at e
   rw[e]
   exact .inl ⟨hl,rfl,hp.2.1,hp.2.2.2.2.1,hp.2.2.1,hp.2.2.2.1⟩
end
section
open Go.RowKit

theorem Fj (l:ML):∀y∈Al l,y.oneCell' =true:=by
 induction l with
 |nil=>intro y hy;simp[Al] at hy
 |cons p l ih=>
  intro y hy;rw[Ez] at hy
  rcases List.mem_cons.1 hy with rfl|hy
  ·rfl
  ·rcases List.mem_cons.1 hy with rfl|hy
   ·rfl
   ·rcases List.mem_cons.1 hy with rfl|hy
    ·rfl
    ·exact ih y hy
theorem Kr (a b c:Int):∀u∈[Value.int .i64 a,Value.int .i64 b,Value.int .i64 c],u.oneCell' =true:=by
 intro u hu;simp at hu;rcases hu with rfl|rfl|rfl<;>rfl
end
section
open Go.RowKit

def Ek (w:World) (b:Nat):Prop:=∃(c:Array Value) (t:Nat),w.heap[b]? =some (.cells c t (0,0))
theorem Ek.lt {w:World} {b:Nat} (h:Ek w b):b<w.heap.size:=by
 obtain⟨c,t,h⟩:=h
 exact(Array.getElem?_eq_some_iff.1 h).1
def Aj (w:World) (F:Nat->Prop) (v:Value) (n:Nat) (xs:List Value):Prop:=
 ∃(a:Option Addr) (b off cap:Nat),v= .slice a n cap/\n<=cap/\cap<=maxLen/\(0<n->a=some ⟨b,off,none⟩/\F b/\Ek w b)/\(∀j u,xs[j]? =some u->w.cell? ⟨b,off+j,none⟩=some u)/\(a=none->cap=0)/\(n=0->xs=[])
theorem Aj.row {w:World} {F:Nat->Prop} {v:Value} {n:Nat} {xs:List Value} (h:Aj w F v n xs):Row w v n xs:=by
 obtain⟨a,b,off,cap,h1,h2,h3,h4,h5,h6,_⟩:=h
 exact⟨a,b,off,cap,h1,h2,h3,fun hn=>(h4 hn).1,h5,h6⟩
theorem Aj.mono {w:World} {F G:Nat->Prop} {v:Value} {n:Nat} {xs:List Value} (h:Aj w F v n xs) (hFG:∀g,F g->G g):Aj w G v n xs:=by
 obtain⟨a,b,off,cap,h1,h2,h3,h4,h5,h6,h7⟩:=h
 exact⟨a,b,off,cap,h1,h2,h3,fun hn=>⟨(h4 hn).1,hFG _ (h4 hn).2.1,(h4 hn).2.2⟩,h5,h6,h7⟩
theorem Aj.frame {w w' :World} {F:Nat->Prop} {v:Value} {n:Nat} {xs:List Value} (h:Aj w F v n xs) (hf:∀g,F g->g<w.heap.size->w'.heap[g]? =w.heap[g]?):Aj w' F v n xs:=by
 obtain⟨a,b,off,cap,h1,h2,h3,h4,h5,h6,h7⟩:=h
 refine⟨a,b,off,cap,h1,h2,h3,fun hn=>⟨(h4 hn).1,(h4 hn).2.1, ?_⟩,fun j u hj=> ?_,h6,h7⟩
 ·obtain⟨e1,e2,c,t,e3⟩:=h4 hn
  exact⟨c,t,(hf b e2 (Array.getElem?_eq_some_iff.1 e3).1).trans e3⟩
 have hc:=h5 j u hj
 rcases Nat.eq_zero_or_pos n with h0|h0
 ·rw[h7 h0] at hj;simp at hj
 ·rw[World.cell?_of_block (hf b (h4 h0).2.1 (Aa hc))]
  exact hc
theorem Aj.lt {w:World} {F:Nat->Prop} {v:Value} {n:Nat} {xs:List Value} (h:Aj w F v n xs) (_hx:0<n->xs≠[]):Aj w (fun g=>F g/\g<w.heap.size) v n xs:=by
 obtain⟨a,b,off,cap,h1,h2,h3,h4,h5,h6,h7⟩:=h
 exact⟨a,b,off,cap,h1,h2,h3,fun hn=>⟨(h4 hn).1,⟨(h4 hn).2.1,(h4 hn).2.2.lt⟩,(h4 hn).2.2⟩,h5,h6,h7⟩
theorem Aj.of_owns {w:World} {base e size n:Nat} {v:Value} {xs:List Value} (h:w.ownsRow base e size v n xs):Aj w (fun g=>v.ownBlock=some g) v n xs:=by
 have h0:=h
 obtain⟨hl,h|⟨g,cap,cur,rfl,hg,hh,hn,hcap,hsz,htake⟩⟩:=h
 ·obtain⟨rfl,rfl⟩:=h
  have hx:xs=[]:=by simpa using hl
  subst hx;exact⟨none,0,0,0,rfl,Nat.le_refl _,Nat.zero_le _,fun h=>absurd h (Nat.lt_irrefl _),fun j u hj=>by simp at hj,fun _=>rfl,fun _=>rfl⟩
 ·refine⟨some ⟨g,0,none⟩,g,0,cap,rfl,hn,hcap,fun _=>⟨rfl,rfl,_,_,hh⟩,fun j u hj=> ?_,(fun h=>by cases h),fun h=> ?_⟩
  ·have hlt:j<n*size:=by
    have:=(List.getElem?_eq_some_iff.1 hj).1
    omega
   rw[Nat.zero_add,h0.cellAt j hlt]
   exact hj
  ·subst h;exact List.length_eq_zero_iff.1 (by omega)
theorem Rl {xs:List Value} {i m size:Nat} (j:Nat):((xs.drop (i*size)).take (m*size))[j]? =if j<m*size then xs[i*size+j]? else none:=by
 rw[List.getElem?_take]
 split
 ·rw[List.getElem?_drop]
 ·rfl

theorem Rh (l:List (Int × Int)):(l.length=0->Au l=[])/\(0<l.length->Au l≠[]):=by
 have:=Cx l
 exact⟨fun h=>List.length_eq_zero_iff.1 (by omega),fun h e=>by rw[e] at this;simp at this;omega⟩
theorem Ch (l:List Int):(l.length=0->Ab l=[])/\(0<l.length->Ab l≠[]):=by
 have:=Bk l
 exact⟨fun h=>List.length_eq_zero_iff.1 (by omega),fun h e=>by rw[e] at this;simp at this;omega⟩
theorem Wl (l:ML):(l.length=0->Al l=[])/\(0<l.length->Al l≠[]):=by
 have:=Dx l
 exact⟨fun h=>List.length_eq_zero_iff.1 (by omega),fun h e=>by rw[e] at this;simp at this;omega⟩
theorem Ij (l:List TV):(l.length=0->Ap l=[])/\(0<l.length->Ap l≠[]):=by
 have:=Bj l
 exact⟨fun h=>List.length_eq_zero_iff.1 (by omega),fun h e=>by rw[e] at this;simp at this;omega⟩

def Aq:Nat->World->(Nat->Prop)->TV->Tr->Prop
 |0,_,_,_,_=>False
 | n + 1, w, F, x, T => x.lf = T.leaf ∧ Aj w F x.p T.pairs.length (Au T.pairs) ∧ Aj w F x.c T.cuts.length (Ab T.cuts) ∧ Aj w F x.b T.buf.length (Al T.buf) ∧
   ∃xs:List TV,xs.length=T.kids.length/\Aj w F x.k xs.length (Ap xs)/\∀i,i<xs.length->Aq n w F (Ay xs i) (AV T i)
def Ad (n:Nat) (w:World) (F:Nat->Prop) (v:Value) (ts:List Tr):Prop:=
 ∃xs:List TV,xs.length=ts.length/\Aj w F v xs.length (Ap xs)/\∀i,i<xs.length->Aq n w F (Ay xs i) (ts.getD i Ah)
theorem Aq.treeAt:∀ {n:Nat} {w:World} {F:Nat->Prop} {x:TV} {T:Tr},Aq n w F x T->AO n w x T
 |0,_,_,_,_,h=>h
 |_+1,_,_,_,_,⟨h1,h2,h3,h4,xs,h5,h6,h7⟩=>⟨h1,h2.row,h3.row,h4.row,xs,h5,h6.row,fun i hi=>(h7 i hi).treeAt⟩
theorem Aq.mono:∀ {n:Nat} {w:World} {F G:Nat->Prop} {x:TV} {T:Tr},Aq n w F x T->(∀g,F g->G g)->Aq n w G x T
 |0,_,_,_,_,_,h,_=>h
 |_+1,_,_,_,_,_,⟨h1,h2,h3,h4,xs,h5,h6,h7⟩,k=>⟨h1,h2.mono k,h3.mono k,h4.mono k,xs,h5,h6.mono k,fun i hi=>(h7 i hi).mono k⟩
theorem Aq.frame:∀ {n:Nat} {w w' :World} {F:Nat->Prop} {x:TV} {T:Tr},Aq n w F x T->(∀g,F g->g<w.heap.size->w'.heap[g]? =w.heap[g]?)->Aq n w' F x T
 |0,_,_,_,_,_,h,_=>h
 |_+1,_,_,_,_,_,⟨h1,h2,h3,h4,xs,h5,h6,h7⟩,k=>⟨h1,h2.frame k,h3.frame k,h4.frame k,xs,h5,h6.frame k,fun i hi=>(h7 i hi).frame k⟩
theorem Aq.lt:∀ {n:Nat} {w:World} {F:Nat->Prop} {x:TV} {T:Tr},Aq n w F x T->Aq n w (fun g=>F g/\g<w.heap.size) x T
 |0,_,_,_,_,h=>h
 |_+1,_,_,_,_,⟨h1,h2,h3,h4,xs,h5,h6,h7⟩=>⟨h1,h2.lt (Rh _).2,h3.lt (Ch _).2,h4.lt (Wl _).2,xs,h5,h6.lt (Ij _).2,fun i hi=>(h7 i hi).lt⟩
theorem Aq.up:∀ {n:Nat} {w:World} {F:Nat->Prop} {x:TV} {T:Tr},Aq n w F x T->Aq (n+1) w F x T
 |0,_,_,_,_,h=>h.elim
 |_+1,_,_,_,_,⟨h1,h2,h3,h4,xs,h5,h6,h7⟩=>⟨h1,h2,h3,h4,xs,h5,h6,fun i hi=>(h7 i hi).up⟩
theorem Aq.le {n m:Nat} {w:World} {F:Nat->Prop} {x:TV} {T:Tr} (h:Aq n w F x T) (hm:n<=m):Aq m w F x T:=by
 induction hm with
 |refl=>exact h
 |step _ ih=>exact ih.up
theorem Aq.chg {n:Nat} {w w' :World} {F P:Nat->Prop} {x:TV} {T:Tr} (h:Aq n w F x T) (hc:Chg P w w') (hd:∀g,F g->¬P g):Aq n w' F x T:=h.frame fun g hg hl=>hc.block g hl (hd g hg)
theorem Aq.below {n:Nat} {w w' :World} {F:Nat->Prop} {x:TV} {T:Tr} (h:Aq n w F x T) (hb:Below w.heap.size w w'):Aq n w' F x T:=h.frame fun g _ hl=>hb.block g hl
theorem Aj.below {w w' :World} {F:Nat->Prop} {v:Value} {n:Nat} {xs:List Value} (h:Aj w F v n xs) (hb:Below w.heap.size w w'):Aj w' F v n xs:=h.frame fun g _ hl=>hb.block g hl
theorem Aj.chg {w w' :World} {F P:Nat->Prop} {v:Value} {n:Nat} {xs:List Value} (h:Aj w F v n xs) (hc:Chg P w w') (hd:∀g,F g->¬P g):Aj w' F v n xs:=h.frame fun g hg hl=>hc.block g hl (hd g hg)
theorem Ad.below {n:Nat} {w w' :World} {F:Nat->Prop} {v:Value} {ts:List Tr} (h:Ad n w F v ts) (hb:Below w.heap.size w w'):Ad n w' F v ts:=by
 obtain⟨xs,h1,h2,h3⟩:=h
 exact⟨xs,h1,h2.below hb,fun i hi=>(h3 i hi).below hb⟩
theorem Ad.chg {n:Nat} {w w' :World} {F P:Nat->Prop} {v:Value} {ts:List Tr} (h:Ad n w F v ts) (hc:Chg P w w') (hd:∀g,F g->¬P g):Ad n w' F v ts:=by
 obtain⟨xs,h1,h2,h3⟩:=h
 exact⟨xs,h1,h2.chg hc hd,fun i hi=>(h3 i hi).chg hc hd⟩
theorem Ad.mono {n:Nat} {w:World} {F G:Nat->Prop} {v:Value} {ts:List Tr} (h:Ad n w F v ts) (k:∀g,F g->G g):Ad n w G v ts:=by
 obtain⟨xs,h1,h2,h3⟩:=h
 exact⟨xs,h1,h2.mono k,fun i hi=>(h3 i hi).mono k⟩
theorem Aq.parts {n:Nat} {w:World} {F:Nat->Prop} {x:TV} {T:Tr} (h:Aq (n+1) w F x T) :
  x.lf=T.leaf/\Aj w F x.p T.pairs.length (Au T.pairs)/\Aj w F x.c T.cuts.length (Ab T.cuts)/\Aj w F x.b T.buf.length (Al T.buf)/\Ad n w F x.k T.kids:=by
 obtain⟨h1,h2,h3,h4,xs,h5,h6,h7⟩:=h
 exact⟨h1,h2,h3,h4,xs,h5,h6,h7⟩
theorem Aq.mk {n:Nat} {w:World} {F:Nat->Prop} {x:TV} {T:Tr} (h1:x.lf=T.leaf) (h2:Aj w F x.p T.pairs.length (Au T.pairs)) (h3:Aj w F x.c T.cuts.length (Ab T.cuts)) (h4:Aj w F x.b T.buf.length (Al T.buf)) (h5:Ad n w F x.k T.kids):Aq (n+1) w F x T:=by
 obtain⟨xs,h5,h6,h7⟩:=h5
 exact⟨h1,h2,h3,h4,xs,h5,h6,h7⟩
theorem EH {n:Nat} {w:World} {F:Nat->Prop} {ts:List Tr} {xs:List TV} (h:∀i,i<xs.length->Aq n w F (Ay xs i) (ts.getD i Ah)):∀y∈Ap xs,y.oneCell' =true:=by
 intro y hy;obtain⟨x,hx,hy2⟩:=List.mem_flatMap.1 hy
 obtain⟨i,hi,rfl⟩:=List.getElem_of_mem hx
 have:=h i hi
 have e:Ay xs i=xs[i]:=by simp[Ay,List.getD,hi]
 rw[e] at this
 obtain⟨a1,a2,a3,a4,c1,c2,c3,c4,hs⟩:=this.treeAt.shape
 rw[hs] at hy2
 simp[TV.cells] at hy2
 rcases hy2 with rfl|rfl|rfl|rfl|rfl<;>rfl

theorem Aj.nil (w:World) (F:Nat->Prop):Aj w F (.slice none 0 0) 0 []:=
 ⟨none,0,0,0,rfl,Nat.le_refl _,Nat.zero_le _,fun h=>absurd h (Nat.lt_irrefl _),fun j u hj=>by simp at hj,fun _=>rfl,fun _=>rfl⟩
theorem Ad.nil (n:Nat) (w:World) (F:Nat->Prop):Ad n w F (.slice none 0 0) []:=⟨[],rfl,Aj.nil w F,fun i hi=>by simp at hi⟩
end
section
open Go.RowKit

theorem Aw {u:World} {B:Nat} {x0 x1 x2 x3 x4:Value} (h:Ao u B #[x0,x1,x2,x3,x4]) :
  u.cell? ⟨B,0,none⟩=some x0/\u.cell? ⟨B,1,none⟩=some x1/\u.cell? ⟨B,2,none⟩=some x2/\u.cell? ⟨B,3,none⟩=some x3/\u.cell? ⟨B,4,none⟩=some x4:=by
 have:=h.cells
 exact⟨by rw[this];rfl,by rw[this];rfl,by rw[this];rfl,by rw[this];rfl,by rw[this];rfl⟩
theorem Ao.stepB {u w' :World} {B N:Nat} {A:Array Value} (h:Ao u B A) (hb:Below N u w') (hN:B<N):Ao w' B A:=(hb.block B hN).trans h
theorem Ac {w w' :World} {N b o:Nat} {v:Value} (hb:Below N w w') (hN:b<N) (h:w.cell? ⟨b,o,none⟩=some v):w'.cell? ⟨b,o,none⟩=some v:=(hb.cell (p:=⟨b,o,none⟩) hN).trans h
end
end Go.Proofs.YtnakaabnjelffaaGreat
