/-
  What comes of a tree that is given messages, as plain functions; shapes and weights.
  Rows and trees with the blocks that they lie in: what stays when other blocks are written.
-/
import Derived.Test.YtadmomgdacfgpaaGreatOfBuilt8
import Derived.Test.YtadmomgdacfgpaaGreatOfBuilt15
import Derived.Test.YtadmomgdacfgpaaGreatOfBuilt5
namespace Go.Proofs.YtadmomgdacfgpaaGreat
set_option maxRecDepth 100000
set_option maxHeartbeats 8000000
section
open Go.RowKit

abbrev TM:=List Tr × List Int

def Am (cs:List Int) (i:Nat) (b:ML):ML:=b.filter fun m=>decide (Ar cs m.2.1=i)
def Ba (cs:List Int) (i:Nat) (b:ML):ML:=b.filter fun m=> !decide (Ar cs m.2.1=i)
theorem Ml (cs:List Int) (i:Nat) (b:ML) (j:Nat) (h:j<b.length):Am cs i (b.take (j+1))=if Ar cs (mK b j)=i then Am cs i (b.take j)++[(mO b j,mK b j,mV b j)] else Am cs i (b.take j):=by
 rw[DA b j h,Am,List.filter_append]
 by_cases hq:Ar cs (mK b j)=i
 ·rw[if_pos hq];simp[Am,hq]
 ·rw[if_neg hq];simp[Am,hq]
theorem My (cs:List Int) (i:Nat) (b:ML) (j:Nat) (h:j<b.length):Ba cs i (b.take (j+1))=if Ar cs (mK b j)=i then Ba cs i (b.take j) else Ba cs i (b.take j)++[(mO b j,mK b j,mV b j)]:=by
 rw[DA b j h,Ba,List.filter_append]
 by_cases hq:Ar cs (mK b j)=i
 ·rw[if_pos hq];simp[Ba,hq]
 ·rw[if_neg hq];simp[Ba,hq]
theorem EB (cs:List Int) (i:Nat) (b:ML):(Am cs i b).length+(Ba cs i b).length=b.length:=by
 induction b with
 |nil=>rfl
 |cons a l ih=>
  unfold Am Ba at *
  by_cases h:Ar cs a.2.1=i<;>simp[h]<;>omega
theorem Cx (cs:List Int) (i:Nat) (b:ML):(Am cs i b).length<=b.length:=List.length_filter_le _ _
theorem Jo (cs:List Int) (i:Nat) (b:ML):(Ba cs i b).length<=b.length:=List.length_filter_le _ _
def He (cs:List Int) (b:ML):Nat->Nat
 |0=>0
 |k+1=>He cs b k+(Am cs k b).length
theorem IZ (cs:List Int) (b:ML) (n:Nat):He cs b n<=b.length:=by
 have key:∀n,He cs b n=(b.filter fun m=>decide (Ar cs m.2.1<n)).length:=by
  intro n;induction n with
  |zero=>
   rw[He,List.filter_eq_nil_iff.2 (fun a _=>by simp)]
   rfl
  |succ n ih=>
   rw[He,ih,Am]
   clear ih;induction b with
   |nil=>rfl
   |cons a l ih=>
    rcases Nat.lt_trichotomy (Ar cs a.2.1) n with h|h|h
    ·simp[show Ar cs a.2.1<n from h,show ¬Ar cs a.2.1=n by omega,show Ar cs a.2.1<n+1 by omega];omega
    ·simp[h];omega
    ·simp[show ¬Ar cs a.2.1<n by omega,show ¬Ar cs a.2.1=n by omega,show ¬Ar cs a.2.1<n+1 by omega];omega
 rw[key]
 exact List.length_filter_le _ _

def Ag (cs:List Int) (b:ML):Nat->Nat × Int
 |0=>(0, -1)
 |k+1=>if (Ag cs b k).2<((Am cs k b).length:Int) then (k,((Am cs k b).length:Int)) else Ag cs b k
theorem Dm (cs:List Int) (b:ML):∀n,0<n->(Ag cs b n).1<n/\(Ag cs b n).2=((Am cs (Ag cs b n).1 b).length:Int):=by
 intro n hn;induction n with
 |zero=>omega
 |succ n ih=>
  rw[Ag]
  by_cases h:(Ag cs b n).2<((Am cs n b).length:Int)
  ·rw[if_pos h];exact⟨Nat.lt_succ_self _,rfl⟩
  ·rw[if_neg h]
   rcases Nat.eq_zero_or_pos n with h0|h0
   ·subst h0;exfalso
    apply h
    simp only[Ag]
    omega
   ·exact⟨Nat.lt_succ_of_lt (ih h0).1,(ih h0).2⟩
theorem J4 (cs:List Int) (b:ML):∀n i,i<n->((Am cs i b).length:Int)<=(Ag cs b n).2:=by
 intro n;induction n with
 |zero=>intro i h;omega
 |succ n ih=>
  intro i hi;rw[Ag]
  by_cases h:(Ag cs b n).2<((Am cs n b).length:Int)
  ·rw[if_pos h]
   by_cases hin:i=n
   ·subst hin;exact Int.le_refl _
   ·have:=ih i (by omega)
    simp only
    omega
  ·rw[if_neg h]
   by_cases hin:i=n
   ·subst hin;omega
   ·exact ih i (by omega)
theorem Ui (cs:List Int) (b:ML):∀n, -1<=(Ag cs b n).2/\(Ag cs b n).2<=b.length/\(Ag cs b n).1<=n:=by
 intro n;rcases Nat.eq_zero_or_pos n with h0|h0
 ·subst h0;simp[Ag]
 ·have:=Dm cs b n h0
  have:=Cx cs (Ag cs b n).1 b
  omega
theorem EV {cs:List Int} {b:ML} {n:Nat} (hb:0<b.length) (hn:cs.length<n):0<(Am cs (Ag cs b n).1 b).length:=by
 have h1:=(Dm cs b n (by omega)).2
 have h2:=J4 cs b n (Ar cs (b[0]'hb).2.1) (by have:=GH cs (b[0]'hb).2.1;omega)
 have h3:0<(Am cs (Ar cs (b[0]'hb).2.1) b).length:=by
  apply List.length_pos_of_mem (a:=b[0]'hb)
  exact List.mem_filter.2 ⟨List.getElem_mem hb,by simp⟩
 omega

def AM (r:Nat):Nat:=if r=3 then 3 else 2
theorem Bs (r:Nat):AM r=2∨(AM r=3/\r=3):=by unfold AM;split<;>simp_all

def Dt (ps:PL):Tr:=⟨true,ps,[],[],[]⟩
def LX (ps:PL):Nat->Nat->List Tr
 |0,_=>[]
 |f+1,i=>if i<ps.length then Dt ((ps.drop i).take (AM (ps.length-i)))::LX ps f (i+AM (ps.length-i)) else []
def Lt (ps:PL):Nat->Nat->List Int
 |0,_=>[]
 |f+1,i=>if i<ps.length then (if 0<i then [kOf ps i] else [])++Lt ps f (i+AM (ps.length-i)) else []
def lfT (ps:PL) (i:Nat):List Tr:=LX ps (ps.length-i) i
def lfC (ps:PL) (i:Nat):List Int:=Lt ps (ps.length-i) i
theorem JZ (ps:PL):∀f g i,ps.length-i<=f->ps.length-i<=g->LX ps f i=LX ps g i
 |0,0,_,_,_=>rfl
 |0,g+1,i,h,_=>by rw[LX,LX,if_neg (by omega)]
 |f+1,0,i,_,h=>by rw[LX,LX,if_neg (by omega)]
 |f+1,g+1,i,hf,hg=>by
  have:=Bs (ps.length-i)
  rw[LX,LX]
  split
  ·rw[JZ ps f g _ (by omega) (by omega)]
  ·rfl
theorem J3 (ps:PL):∀f g i,ps.length-i<=f->ps.length-i<=g->Lt ps f i=Lt ps g i
 |0,0,_,_,_=>rfl
 |0,g+1,i,h,_=>by rw[Lt,Lt,if_neg (by omega)]
 |f+1,0,i,_,h=>by rw[Lt,Lt,if_neg (by omega)]
 |f+1,g+1,i,hf,hg=>by
  have:=Bs (ps.length-i)
  rw[Lt,Lt]
  split
  ·rw[J3 ps f g _ (by omega) (by omega)]
  ·rfl
theorem IY (ps:PL) (i:Nat):lfT ps i=if i<ps.length then Dt ((ps.drop i).take (AM (ps.length-i)))::lfT ps (i+AM (ps.length-i)) else []:=by
 have h2:=Bs (ps.length-i)
 unfold lfT;rw[JZ ps (ps.length-i) (ps.length-i+1) i (by omega) (by omega),LX]
 split
 ·rw[JZ ps (ps.length-i) (ps.length-(i+AM (ps.length-i))) _ (by omega) (by omega)]
 ·rfl
theorem Hp (ps:PL) (i:Nat):lfC ps i=if i<ps.length then (if 0<i then [kOf ps i] else [])++lfC ps (i+AM (ps.length-i)) else []:=by
 have h2:=Bs (ps.length-i)
 unfold lfC;rw[J3 ps (ps.length-i) (ps.length-i+1) i (by omega) (by omega),Lt]
 split
 ·rw[J3 ps (ps.length-i) (ps.length-(i+AM (ps.length-i))) _ (by omega) (by omega)]
 ·rfl
def leafM (ps:PL):TM:=if ps.length<=4 then ([Dt ps],[]) else (lfT ps 0,lfC ps 0)

def FD (m:TM) (i:Nat):Tr:=⟨false,[],(m.2.drop i).take (AM (m.1.length-i)-1),(m.1.drop i).take (AM (m.1.length-i)),[]⟩
def Ls (m:TM):Nat->Nat->List Tr
 |0,_=>[]
 |f+1,i=>if i<m.1.length then FD m i::Ls m f (i+AM (m.1.length-i)) else []
def ME (m:TM):Nat->Nat->List Int
 |0,_=>[]
 |f+1,i=>if i<m.1.length then (if 0<i then [iAt m.2 (i-1)] else [])++ME m f (i+AM (m.1.length-i)) else []
def pkT (m:TM) (i:Nat):List Tr:=Ls m (m.1.length-i) i
def pkC (m:TM) (i:Nat):List Int:=ME m (m.1.length-i) i
theorem JX (m:TM):∀f g i,m.1.length-i<=f->m.1.length-i<=g->Ls m f i=Ls m g i
 |0,0,_,_,_=>rfl
 |0,g+1,i,h,_=>by rw[Ls,Ls,if_neg (by omega)]
 |f+1,0,i,_,h=>by rw[Ls,Ls,if_neg (by omega)]
 |f+1,g+1,i,hf,hg=>by
  have:=Bs (m.1.length-i)
  rw[Ls,Ls]
  split
  ·rw[JX m f g _ (by omega) (by omega)]
  ·rfl
theorem JP (m:TM):∀f g i,m.1.length-i<=f->m.1.length-i<=g->ME m f i=ME m g i
 |0,0,_,_,_=>rfl
 |0,g+1,i,h,_=>by rw[ME,ME,if_neg (by omega)]
 |f+1,0,i,_,h=>by rw[ME,ME,if_neg (by omega)]
 |f+1,g+1,i,hf,hg=>by
  have:=Bs (m.1.length-i)
  rw[ME,ME]
  split
  ·rw[JP m f g _ (by omega) (by omega)]
  ·rfl
theorem Jy (m:TM) (i:Nat):pkT m i=if i<m.1.length then FD m i::pkT m (i+AM (m.1.length-i)) else []:=by
 have h2:=Bs (m.1.length-i)
 unfold pkT;rw[JX m (m.1.length-i) (m.1.length-i+1) i (by omega) (by omega),Ls]
 split
 ·rw[JX m (m.1.length-i) (m.1.length-(i+AM (m.1.length-i))) _ (by omega) (by omega)]
 ·rfl
theorem IQ (m:TM) (i:Nat):pkC m i=if i<m.1.length then (if 0<i then [iAt m.2 (i-1)] else [])++pkC m (i+AM (m.1.length-i)) else []:=by
 have h2:=Bs (m.1.length-i)
 unfold pkC;rw[JP m (m.1.length-i) (m.1.length-i+1) i (by omega) (by omega),ME]
 split
 ·rw[JP m (m.1.length-i) (m.1.length-(i+AM (m.1.length-i))) _ (by omega) (by omega)]
 ·rfl
def CJ (m:TM):TM:=(pkT m 0,pkC m 0)

def BD (m:TM) (i:Nat) (x:TM):TM:=(m.1.take i++x.1++m.1.drop (i+1),m.2.take i++x.2++m.2.drop i)

def AR (f:Nat->TM):Nat->List Tr
 |0=>[]
 |k+1=>AR f k++(f k).1
def Cu (f:Nat->TM) (cs:List Int):Nat->List Int
 |0=>[]
 |k+1=>(Cu f cs k++if 0<k then [iAt cs (k-1)] else [])++(f k).2
def Ct (g:Tr->ML->TM) (m:TM) (b:ML) (i:Nat):TM:=if 0<(Am m.2 i b).length then g (m.1.getD i An) (Am m.2 i b) else ([m.1.getD i An],[])
def CM (g:Tr->ML->TM) (m:TM) (b:ML):TM:=(AR (Ct g m b) m.1.length,Cu (Ct g m b) m.2 m.1.length)

def Br (g:Tr->ML->TM):Nat->TM->ML->TM × ML
 |0,m,b=>(m,b)
 |f+1,m,b=>if 6<b.length then Br g f (BD m (Ag m.2 b m.1.length).1 (g (m.1.getD (Ag m.2 b m.1.length).1 An) (Am m.2 (Ag m.2 b m.1.length).1 b))) (Ba m.2 (Ag m.2 b m.1.length).1 b) else (m,b)

def Ip (g:Tr->ML->TM) (r:TM × ML):TM:=if 4<r.1.1.length then CJ (CM g r.1 r.2) else ([⟨false,[],r.1.2,r.1.1,r.2⟩],[])
def Ae:Nat->Tr->ML->TM
 |0,T,_=>([T],[])
 | d + 1, T, ms => if T.leaf = true then leafM (Cd T.pairs ms) else
   Ip (Ae d) (Br (Ae d) (At (T.buf++ms)).length (T.kids,T.cuts) (At (T.buf++ms)))

def BJ:Nat->TM->Tr
 |0,m=>m.1.getD 0 An
 |f+1,m=>if 4<m.1.length then BJ f (CJ m) else if m.1.length=1 then m.1.getD 0 An else ⟨false,[],m.2,m.1,[]⟩

def GI (f:Nat->TM) (m:TM):TM:=(AR f m.1.length,Cu f m.2 m.1.length)
def Cn (o:TM):TM:=if 4<o.1.length then CJ o else ([⟨false,[],o.2,o.1,[]⟩],[])
def R9:Nat->Tr->TM
 |0,T=>([T],[])
 | d + 1, T => if T.leaf = true then ([T], []) else
   Cn (GI (fun i=>R9 d ((CM (Ae d) (T.kids,T.cuts) T.buf).1.getD i An)) (CM (Ae d) (T.kids,T.cuts) T.buf))

def shT:Nat->Tr->Prop
 |0,_=>False
 | d + 1, T => (T.leaf = true ∧ d = 0 ∧ T.pairs.length ≤ 4 ∧ T.cuts = [] ∧ T.kids = [] ∧ T.buf = []) ∨
   (T.leaf=false/\T.pairs=[]/\2<=T.kids.length/\T.kids.length<=4/\T.cuts.length+1=T.kids.length/\T.buf.length<=6/\∀t∈T.kids,shT d t)
def wt:Nat->Tr->Nat
 |0,_=>0
 |d+1,T=>if T.leaf=true then 1 else (T.kids.map (wt d)).sum+T.buf.length
def wtL (d:Nat) (ts:List Tr):Nat:=(ts.map (wt d)).sum
theorem Dh (d:Nat) (a b:List Tr):wtL d (a++b)=wtL d a+wtL d b:=by simp[wtL,List.sum_append]
theorem G6 (d:Nat) (t:Tr):wtL d [t]=wt d t:=by simp[wtL]
theorem H3 (d:Nat) (t:Tr) (l:List Tr):wtL d (t::l)=wt d t+wtL d l:=by simp[wtL]
theorem VK:∀ {d:Nat} {T:Tr},shT d T->1<=wt d T
 |0,_,h=>h.elim
 |d+1,T,h=>by
  rcases h with⟨h,_⟩|⟨h1,_,h2,_,_,_,h3⟩
  ·rw[wt,if_pos h];exact Nat.le_refl _
  ·rw[wt,if_neg (by rw[h1];simp)]
   match hk:T.kids with
   |[]=>rw[hk] at h2;simp at h2
   |t::l=>
    have:=VK (h3 t (by rw[hk];simp))
    simp only[List.map_cons,List.sum_cons]
    omega
theorem BE {d:Nat}:∀ {ts:List Tr},(∀t∈ts,shT d t)->ts.length<=wtL d ts
 |[],_=>Nat.le_refl _
 |t::l,h=>by
  have:=VK (h t (by simp))
  have:=BE (ts:=l) (fun u hu=>h u (by simp[hu]))
  rw[H3]
  simp only[List.length_cons]
  omega

def MOk (d:Nat) (m:TM):Prop:=m.2.length+1=m.1.length/\∀t∈m.1,shT d t
theorem MOk.one {d:Nat} {t:Tr} (h:shT d t):MOk d ([t],[]):=⟨rfl,fun u hu=>by simp at hu;subst hu;exact h⟩
theorem Cv {l:List Tr} {i:Nat} (h:i<l.length):l.getD i An∈l:=by
 simp[List.getD,h]

theorem P7 {ps:PL} (h:ps.length<=4):shT 1 (Dt ps):= .inl ⟨rfl,rfl,h,rfl,rfl,rfl⟩
theorem W9 (ps:PL):∀n i,ps.length-i<=n->(2<=ps.length-i∨ps.length<=i)->(∀t∈lfT ps i,shT 1 t)/\(lfT ps i).length*2<=ps.length-i/\wtL 1 (lfT ps i)=(lfT ps i).length/\(lfC ps i).length+(if i=0/\0<ps.length then 1 else 0)=(lfT ps i).length:=by
 intro n;induction n with
 |zero=>
  intro i h h2;rw[IY,Hp,if_neg (show ¬i<ps.length by omega),if_neg (show ¬i<ps.length by omega),if_neg (show ¬(i=0/\0<ps.length) by omega)]
  exact⟨fun t ht=>by simp at ht,by simp,rfl,rfl⟩
 |succ n ih=>
  intro i h h2;rw[IY,Hp]
  by_cases hi:i<ps.length
  ·rw[if_pos hi,if_pos hi]
   have hm:=Bs (ps.length-i)
   obtain⟨k1,k2,k3,k4⟩:=ih (i+AM (ps.length-i)) (by omega) (by
    rcases hm with e|⟨e,e2⟩
    ·rw[e]
     have:AM (ps.length-i)≠3:=by omega
     have:ps.length-i≠3:=fun h3=>by rw[h3] at this;exact this rfl
     omega
    ·omega)
   refine⟨fun t ht=> ?_, ?_, ?_, ?_⟩
   ·rcases List.mem_cons.1 ht with rfl|ht
    ·exact P7 (by simp;omega)
    ·exact k1 t ht
   ·simp only[List.length_cons];omega
   ·rw[H3,k3];simp[wt,Dt];omega
   ·simp only[List.length_cons,List.length_append]
    rw[if_neg (by omega)] at k4
    by_cases h0:i=0
    ·subst h0;simp[hi] at *;omega
    ·rw[if_pos (Nat.pos_of_ne_zero h0),if_neg (by omega)];simp;omega
  ·rw[if_neg hi,if_neg hi,if_neg (show ¬(i=0/\0<ps.length) by omega)]
   exact⟨fun t ht=>by simp at ht,by simp,rfl,rfl⟩
theorem Vm {ps:PL} {L:Nat} (h:ps.length<=4+L) (hL:0<L):MOk 1 (leafM ps)/\wtL 1 (leafM ps).1<=1+L:=by
 unfold leafM;by_cases h4:ps.length<=4
 ·rw[if_pos h4]
  exact⟨MOk.one (P7 h4),by simp only[G6,wt,Dt,if_true];omega⟩
 ·rw[if_neg h4]
  obtain⟨k1,k2,k3,k4⟩:=W9 ps ps.length 0 (by omega) (by omega)
  rw[if_pos ⟨rfl,by omega⟩] at k4
  exact⟨⟨k4,k1⟩,by simp only;rw[k3];omega⟩

theorem Xa {d:Nat} {m:TM} (hm:MOk d m):∀n i,m.1.length-i<=n->(2<=m.1.length-i∨m.1.length<=i)->(∀t∈pkT m i,shT (d+1) t)/\(pkT m i).length*2<=m.1.length-i/\wtL (d+1) (pkT m i)=wtL d (m.1.drop i)/\(pkC m i).length+(if i=0/\0<m.1.length then 1 else 0)=(pkT m i).length:=by
 intro n;induction n with
 |zero=>
  intro i h h2;rw[Jy,IQ,if_neg (show ¬i<m.1.length by omega),if_neg (show ¬i<m.1.length by omega),if_neg (show ¬(i=0/\0<m.1.length) by omega),List.drop_eq_nil_of_le (by omega)]
  exact⟨fun t ht=>by simp at ht,by simp,rfl,rfl⟩
 |succ n ih=>
  intro i h h2;rw[Jy,IQ]
  by_cases hi:i<m.1.length
  ·rw[if_pos hi,if_pos hi]
   have hmn:=Bs (m.1.length-i)
   obtain⟨k1,k2,k3,k4⟩:=ih (i+AM (m.1.length-i)) (by omega) (by
    rcases hmn with e|⟨e,e2⟩
    ·rw[e]
     have:AM (m.1.length-i)≠3:=by omega
     have:m.1.length-i≠3:=fun h3=>by rw[h3] at this;exact this rfl
     omega
    ·omega)
   refine⟨fun t ht=> ?_, ?_, ?_, ?_⟩
   ·rcases List.mem_cons.1 ht with rfl|ht
    ·refine .inr ⟨rfl,rfl, ?_, ?_, ?_,Nat.zero_le _,fun u hu=> ?_⟩
     ·simp[FD];omega
     ·simp[FD];omega
     ·have:=hm.1
      simp[FD];omega
     ·exact hm.2 u (List.mem_of_mem_drop (List.mem_of_mem_take hu))
    ·exact k1 t ht
   ·simp only[List.length_cons];omega
   ·rw[H3,k3,show wt (d+1) (FD m i)=wtL d ((m.1.drop i).take (AM (m.1.length-i))) by simp[wt,FD,wtL], ← Dh]
    rw[show m.1.drop (i+AM (m.1.length-i))=(m.1.drop i).drop (AM (m.1.length-i)) by rw[List.drop_drop],List.take_append_drop]
   ·simp only[List.length_cons,List.length_append]
    rw[if_neg (by omega)] at k4
    by_cases h0:i=0
    ·subst h0;simp[hi] at *;omega
    ·rw[if_pos (Nat.pos_of_ne_zero h0),if_neg (by omega)];simp;omega
  ·rw[if_neg hi,if_neg hi,if_neg (show ¬(i=0/\0<m.1.length) by omega),List.drop_eq_nil_of_le (by omega)]
   exact⟨fun t ht=>by simp at ht,by simp,rfl,rfl⟩
theorem Hx {d:Nat} {m:TM} (hm:MOk d m) (h2:2<=m.1.length):MOk (d+1) (CJ m)/\wtL (d+1) (CJ m).1=wtL d m.1/\(CJ m).1.length*2<=m.1.length:=by
 obtain⟨k1,k2,k3,k4⟩:=Xa hm m.1.length 0 (by omega) (by omega)
 rw[if_pos ⟨rfl,by omega⟩] at k4
 exact⟨⟨k4,k1⟩,k3,k2⟩

theorem G7 {d:Nat} {m x:TM} {i:Nat} (hm:MOk d m) (hx:MOk d x) (hi:i<m.1.length):MOk d (BD m i x)/\wtL d (BD m i x).1+wt d (m.1.getD i An)=wtL d m.1+wtL d x.1/\(BD m i x).1.length+1=m.1.length+x.1.length:=by
 obtain⟨h1,h2⟩:=hm
 obtain⟨h3,h4⟩:=hx
 refine⟨⟨?_,fun t ht=> ?_⟩, ?_, ?_⟩
 ·simp[BD];omega
 ·simp only[BD,List.mem_append] at ht
  rcases ht with(ht|ht)|ht
  ·exact h2 t (List.mem_of_mem_take ht)
  ·exact h4 t ht
  ·exact h2 t (List.mem_of_mem_drop ht)
 ·have e:m.1=m.1.take i++[m.1.getD i An]++m.1.drop (i+1):=by
   have:m.1.getD i An=m.1[i]:=by simp[List.getD,hi]
   rw[this,List.append_assoc,List.singleton_append, ← List.drop_eq_getElem_cons hi,List.take_append_drop]
  have e2:wtL d m.1=wtL d (m.1.take i)+wt d (m.1.getD i An)+wtL d (m.1.drop (i+1)):=by
   conv=>lhs;rw[e]
   rw[Dh,Dh,G6]
  rw[e2,BD]
  simp only
  rw[Dh,Dh]
  omega
 ·simp[BD];omega

theorem Om {d:Nat} {m:TM} (f:Nat->TM) (a:Nat->Nat) (hf:∀i,i<m.1.length->MOk d (f i)/\wtL d (f i).1<=wt d (m.1.getD i An)+a i) :
  ∀k,k<=m.1.length->(∀t∈AR f k,shT d t)/\(Cu f m.2 k).length+(if k=0 then 0 else 1)=(AR f k).length/\wtL d (AR f k)<=wtL d (m.1.take k)+((List.range k).map a).sum/\k<=(AR f k).length:=by
 intro k;induction k with
 |zero=>intro _;exact⟨fun t ht=>by simp[AR] at ht,rfl,by simp[AR,wtL],Nat.le_refl _⟩
 |succ k ih=>
  intro hk;obtain⟨k1,k2,k3,k4⟩:=ih (by omega)
  obtain⟨⟨f1,f2⟩,f3⟩:=hf k (by omega)
  refine⟨fun t ht=> ?_, ?_, ?_, ?_⟩
  ·rcases List.mem_append.1 ht with ht|ht
   ·exact k1 t ht
   ·exact f2 t ht
  ·simp only[Cu,AR,List.length_append]
   rw[if_neg (Nat.succ_ne_zero k)]
   by_cases h0:k=0
   ·subst h0;simp[Cu,AR] at *;omega
   ·rw[if_neg h0] at k2
    rw[if_pos (Nat.pos_of_ne_zero h0)];simp;omega
  ·rw[AR,Dh,List.take_succ_eq_append_getElem (show k<m.1.length by omega),Dh,G6,List.range_succ,List.map_append,List.sum_append]
   rw[show m.1.getD k An=m.1[k] by simp[List.getD,show k<m.1.length by omega]] at f3
   simp only[List.map_cons,List.map_nil,List.sum_cons,List.sum_nil]
   omega
  ·simp only[AR,List.length_append];omega
theorem VF {d:Nat} {m:TM} (hm:MOk d m) (f:Nat->TM) (a:Nat->Nat) (hf:∀i,i<m.1.length->MOk d (f i)/\wtL d (f i).1<=wt d (m.1.getD i An)+a i):MOk d (GI f m)/\wtL d (GI f m).1<=wtL d m.1+((List.range m.1.length).map a).sum/\m.1.length<=(GI f m).1.length:=by
 obtain⟨k1,k2,k3,k4⟩:=Om f a hf m.1.length (Nat.le_refl _)
 have:=hm.1
 rw[if_neg (by omega)] at k2
 rw[List.take_of_length_le (Nat.le_refl _)] at k3
 exact⟨⟨k2,k1⟩,k3,k4⟩
theorem Lu (g:Tr->ML->TM) (m:TM) (b:ML):CM g m b=GI (Ct g m b) m:=rfl

def NG (d:Nat) (g:Tr->ML->TM):Prop:=∀T ms,shT d T->0<ms.length->MOk d (g T ms)/\wtL d (g T ms).1<=wt d T+ms.length
theorem Fm (cs:List Int) (b:ML):∀n,((List.range n).map fun i=>(Am cs i b).length).sum=He cs b n
 |0=>rfl
 |n+1=>by rw[List.range_succ,List.map_append,List.sum_append,Fm cs b n];simp[He]
theorem KW {d:Nat} {g:Tr->ML->TM} (hg:NG d g) {m:TM} (hm:MOk d m) (b:ML):∀i,i<m.1.length->MOk d (Ct g m b i)/\wtL d (Ct g m b i).1<=wt d (m.1.getD i An)+(Am m.2 i b).length:=by
 intro i hi;unfold Ct;by_cases h:0<(Am m.2 i b).length
 ·rw[if_pos h]
  exact hg _ _ (hm.2 _ (Cv hi)) h
 ·rw[if_neg h]
  exact⟨MOk.one (hm.2 _ (Cv hi)),by simp only[G6];omega⟩
theorem Hz {d:Nat} {g:Tr->ML->TM} (hg:NG d g) {m:TM} (hm:MOk d m) (b:ML):MOk d (CM g m b)/\wtL d (CM g m b).1<=wtL d m.1+b.length/\m.1.length<=(CM g m b).1.length:=by
 obtain⟨k1,k2,k3⟩:=VF hm (Ct g m b) (fun i=>(Am m.2 i b).length) (KW hg hm b)
 rw[Fm] at k2
 have:=IZ m.2 b m.1.length
 rw[Lu]
 exact⟨k1,by omega,k3⟩

theorem LK {d:Nat} {g:Tr->ML->TM} (hg:NG d g):∀f m b,MOk d m->b.length<=f->MOk d (Br g f m b).1/\wtL d (Br g f m b).1.1+(Br g f m b).2.length<=wtL d m.1+b.length/\m.1.length<=(Br g f m b).1.1.length/\(Br g f m b).2.length<=6
 |0,m,b,hm,hb=>⟨hm,Nat.le_refl _,Nat.le_refl _,by simp only[Br];omega⟩
 |f+1,m,b,hm,hb=>by
  rw[Br]
  by_cases h:6<b.length
  ·rw[if_pos h]
   have hp:=EV (cs:=m.2) (b:=b) (n:=m.1.length) (by omega) (by have:=hm.1;omega)
   have hi:=(Dm m.2 b m.1.length (by have:=hm.1;omega)).1
   generalize (Ag m.2 b m.1.length).1=i at *
   have hk:=hg _ _ (hm.2 _ (Cv hi)) hp
   have hmr:=EB m.2 i b
   have hpm:=G7 hm hk.1 hi
   have hlen:=hk.1.1
   obtain⟨k1,k2,k3,k4⟩:=LK hg f _ (Ba m.2 i b) hpm.1 (by omega)
   exact⟨k1,by omega,by omega,k4⟩
  ·rw[if_neg h]
   exact⟨hm,Nat.le_refl _,Nat.le_refl _,by simp only;omega⟩

theorem Ca:∀d,NG d (Ae d)
 |0=>fun _ _ h _=>h.elim
 |d+1=>fun T ms h hms=>by
  rcases h with⟨h1,rfl,h2,_⟩|⟨h1,_,h2,h3,h4,h5,h6⟩
  ·rw[Ae,if_pos h1]
   have:=Fu T.pairs ms
   obtain⟨k1,k2⟩:=Vm (ps:=Cd T.pairs ms) (L:=ms.length) (by omega) hms
   exact⟨k1,by rw[wt,if_pos h1];exact k2⟩
  ·rw[Ae,if_neg (by rw[h1];simp)]
   have hl:=Ga (T.buf++ms)
   rw[List.length_append] at hl
   obtain⟨k1,k2,k3,k4⟩:=LK (Ca d) _ (T.kids,T.cuts) (At (T.buf++ms)) ⟨h4,h6⟩ (Nat.le_refl _)
   generalize Br (Ae d) (At (T.buf++ms)).length (T.kids,T.cuts) (At (T.buf++ms))=r at *
   have hw:wt (d+1) T=wtL d T.kids+T.buf.length:=by rw[wt,if_neg (by rw[h1];simp)];rfl
   simp only at k2 k3
   unfold Ip;by_cases hr:4<r.1.1.length
   ·rw[if_pos hr]
    obtain⟨q1,q2,q3⟩:=Hz (Ca d) k1 r.2
    obtain⟨p1,p2,_⟩:=Hx q1 (by omega)
    exact⟨p1,by omega⟩
   ·rw[if_neg hr]
    refine⟨MOk.one (.inr ⟨rfl,rfl,by simp only;omega,by simp only;omega,k1.1,k4,k1.2⟩), ?_⟩
    rw[G6,wt,if_neg (by simp)]
    show wtL d r.1.1+r.2.length<=_
    omega

theorem Qx:∀f d m,MOk d m->m.1.length<=f->∃e,d<=e/\e<=d+f/\shT e (BJ f m)/\wt e (BJ f m)<=wtL d m.1
 |0,d,m,hm,hf=>absurd hm.1 (by omega)
 |f+1,d,m,hm,hf=>by
  rw[BJ]
  by_cases h:4<m.1.length
  ·rw[if_pos h]
   obtain⟨p1,p2,p3⟩:=Hx hm (by omega)
   obtain⟨e,e1,e2,e3,e4⟩:=Qx f (d+1) (CJ m) p1 (by omega)
   exact⟨e,by omega,by omega,e3,by omega⟩
  ·rw[if_neg h]
   by_cases h1:m.1.length=1
   ·rw[if_pos h1]
    refine⟨d,Nat.le_refl _,by omega,hm.2 _ (Cv (by omega)), ?_⟩
    match hm1:m.1 with
    |[]=>rw[hm1] at h1;simp at h1
    |[t]=>simp[wtL]
    |_::_::_=>rw[hm1] at h1;simp at h1
   ·rw[if_neg h1]
    have:=hm.1
    refine⟨d+1,by omega,by omega, .inr ⟨rfl,rfl,by simp only;omega,by simp only;omega,hm.1,Nat.zero_le _,hm.2⟩, ?_⟩
    rw[wt,if_neg (by simp)]
    exact Nat.le_refl _

theorem Ku {d:Nat}:∀ {ts:List Tr},(∀t∈ts,AU d t+3<=7*wt d t)->(ts.map (AU d)).sum+3*ts.length<=7*(ts.map (wt d)).sum
 |[],_=>by simp
 |t::l,h=>by
  have h1:=h t (by simp)
  have h2:=Ku (ts:=l) (fun u hu=>h u (by simp[hu]))
  simp only[List.map_cons,List.sum_cons,List.length_cons]
  omega
theorem SQ:∀d T,shT d T->AU d T+3<=7*wt d T
 |0,_,h=>h.elim
 |d+1,T,h=>by
  rcases h with⟨h1,rfl,h2,h3,h4,h5⟩|⟨h1,h0,h2,h3,h4,h5,h6⟩
  ·rw[wt,if_pos h1,AU,h3,h4,h5]
   simp
   omega
  ·rw[wt,if_neg (by rw[h1];simp),AU,h0]
   have:=Ku (fun t ht=>SQ d t (h6 t ht))
   simp only[List.length_nil]
   omega
theorem Kd {d c:Nat}:∀ {ts:List Tr},(∀t∈ts,wt d t+2<=c)->(ts.map (wt d)).sum+2*ts.length<=ts.length*c
 |[],_=>by simp
 |t::l,h=>by
  have h1:=h t (by simp)
  have h2:=Kd (ts:=l) (fun u hu=>h u (by simp[hu]))
  simp only[List.map_cons,List.sum_cons,List.length_cons,Nat.add_mul,Nat.one_mul]
  omega
theorem WM:∀d T,shT d T->wt d T+2<=3*4^d
 |0,_,h=>h.elim
 |d+1,T,h=>by
  rcases h with⟨h1,rfl,_⟩|⟨h1,h0,h2,h3,h4,h5,h6⟩
  ·rw[wt,if_pos h1];decide
  ·rw[wt,if_neg (by rw[h1];simp),Nat.pow_succ]
   have h7:=Kd (fun t ht=>WM d t (h6 t ht))
   have h8:T.kids.length*(3*4^d)<=4*(3*4^d):=Nat.mul_le_mul_right _ h3
   have h9:2<=3*4^d:=by have:0<4^d:=Nat.pow_pos (by decide);omega
   rcases(show T.kids.length=2∨T.kids.length=3∨T.kids.length=4 by omega) with e|e|e<;>rw[e] at h7<;>omega

theorem Gp:∀ {m:Nat} {T:Tr} {lo up:Int},AK m T lo up≠0->shT (AK m T lo up) T
 |0,_,_,_,h=>absurd rfl h
 |m+1,T,lo,up,h=>by
  cases hl:T.leaf
  ·have hk:=A0 h hl
   have hp:=Be hk.1
   have e:=Dw (m:=m) hl hk.1
   have he:=FN (d:=Cw m T lo up) (n:=T.kids.length) (hk.2 0 (by omega)) (fun i hi=>by
    rcases Nat.decEq (Cw m T lo up i) (Cw m T lo up 0) with hne|he
    ·exact absurd (e.trans (GL hi hne)) h
    ·exact he)
   rw[e,he]
   refine .inr ⟨hl,hp.1,hp.2.1.1,hp.2.1.2,hp.2.2.1,hp.2.2.2.1,fun t ht=> ?_⟩
   obtain⟨i,hi,rfl⟩:=List.getElem_of_mem ht
   have h1:=Gp (hk.2 i hi)
   have h2:Cw m T lo up i=Cw m T lo up 0:=by
    rcases Nat.decEq (Cw m T lo up i) (Cw m T lo up 0) with hne|he
    ·exact absurd (e.trans (GL hi hne)) h
    ·exact he
   rw[←h2]
   have h3:AQ T i=T.kids[i]:=by simp[AQ,List.getD,hi]
   rw[←h3]
   exact h1
  ·have hp:=Cb (Bf h hl)
   have e:=Da (m:=m) (lo:=lo) (hi:=up) hl
   rw[if_pos (Bf h hl)] at e
   rw[e]
   exact .inl ⟨hl,rfl,hp.2.1,hp.2.2.2.2.1,hp.2.2.1,hp.2.2.2.1⟩
end
section
open Go.RowKit

def Eg (w:World) (b:Nat):Prop:=∃(c:Array Value) (t:Nat),w.heap[b]? =some (.cells c t (0,0))
theorem Eg.lt {w:World} {b:Nat} (h:Eg w b):b<w.heap.size:=by
 obtain⟨c,t,h⟩:=h
 exact(Array.getElem?_eq_some_iff.1 h).1
def Ao (w:World) (F:Nat->Prop) (v:Value) (n:Nat) (xs:List Value):Prop:=
 ∃(a:Option Addr) (b off cap:Nat),v= .slice a n cap/\n<=cap/\cap<=maxLen/\(0<n->a=some ⟨b,off,none⟩/\F b/\Eg w b)/\(∀j u,xs[j]? =some u->w.cell? ⟨b,off+j,none⟩=some u)/\(a=none->cap=0)/\(n=0->xs=[])
theorem Ao.row {w:World} {F:Nat->Prop} {v:Value} {n:Nat} {xs:List Value} (h:Ao w F v n xs):Row w v n xs:=by
 obtain⟨a,b,off,cap,h1,h2,h3,h4,h5,h6,_⟩:=h
 exact⟨a,b,off,cap,h1,h2,h3,fun hn=>(h4 hn).1,h5,h6⟩
theorem Ao.mono {w:World} {F G:Nat->Prop} {v:Value} {n:Nat} {xs:List Value} (h:Ao w F v n xs) (hFG:∀g,F g->G g):Ao w G v n xs:=by
 obtain⟨a,b,off,cap,h1,h2,h3,h4,h5,h6,h7⟩:=h
 exact⟨a,b,off,cap,h1,h2,h3,fun hn=>⟨(h4 hn).1,hFG _ (h4 hn).2.1,(h4 hn).2.2⟩,h5,h6,h7⟩
theorem Ao.frame {w w' :World} {F:Nat->Prop} {v:Value} {n:Nat} {xs:List Value} (h:Ao w F v n xs) (hf:∀g,F g->g<w.heap.size->w'.heap[g]? =w.heap[g]?):Ao w' F v n xs:=by
 obtain⟨a,b,off,cap,h1,h2,h3,h4,h5,h6,h7⟩:=h
 refine⟨a,b,off,cap,h1,h2,h3,fun hn=>⟨(h4 hn).1,(h4 hn).2.1, ?_⟩,fun j u hj=> ?_,h6,h7⟩
 ·obtain⟨e1,e2,c,t,e3⟩:=h4 hn
  exact⟨c,t,(hf b e2 (Array.getElem?_eq_some_iff.1 e3).1).trans e3⟩
 have hc:=h5 j u hj
 rcases Nat.eq_zero_or_pos n with h0|h0
 ·rw[h7 h0] at hj;simp at hj
 ·rw[World.cell?_of_block (hf b (h4 h0).2.1 (Aa hc))]
  exact hc
theorem Ao.lt {w:World} {F:Nat->Prop} {v:Value} {n:Nat} {xs:List Value} (h:Ao w F v n xs) (_hx:0<n->xs≠[]):Ao w (fun g=>F g/\g<w.heap.size) v n xs:=by
 obtain⟨a,b,off,cap,h1,h2,h3,h4,h5,h6,h7⟩:=h
 exact⟨a,b,off,cap,h1,h2,h3,fun hn=>⟨(h4 hn).1,⟨(h4 hn).2.1,(h4 hn).2.2.lt⟩,(h4 hn).2.2⟩,h5,h6,h7⟩
theorem Ao.of_owns {w:World} {base e size n:Nat} {v:Value} {xs:List Value} (h:w.ownsRow base e size v n xs):Ao w (fun g=>v.ownBlock=some g) v n xs:=by
 have h0:=h
 obtain⟨hl,h|⟨g,cap,cur,rfl,hg,hh,hn,hcap,hsz,htake⟩⟩:=h
 ·obtain⟨rfl,rfl⟩:=h
  have hx:xs=[]:=by simpa using hl
  subst hx;exact⟨none,0,0,0,rfl,Nat.le_refl _,Nat.zero_le _,fun h=>absurd h (Nat.lt_irrefl _),fun j u hj=>by simp at hj,fun _=>rfl,fun _=>rfl⟩
 ·refine⟨some ⟨g,0,none⟩,g,0,cap,rfl,hn,hcap,fun _=>⟨rfl,rfl,_,_,hh⟩,fun j u hj=> ?_,(fun h=>by cases h),fun h=> ?_⟩
  ·have hlt:j<n*size:=by
    have:=(List.getElem?_eq_some_iff.1 hj).1
    omega
   rw[Nat.zero_add,h0.cellAt j hlt]
   exact hj
  ·subst h;exact List.length_eq_zero_iff.1 (by omega)
theorem Qy {xs:List Value} {i m size:Nat} (j:Nat):((xs.drop (i*size)).take (m*size))[j]? =if j<m*size then xs[i*size+j]? else none:=by
 rw[List.getElem?_take]
 split
 ·rw[List.getElem?_drop]
 ·rfl

theorem P8 (l:List (Int × Int)):(l.length=0->Ai l=[])/\(0<l.length->Ai l≠[]):=by
 have:=BT l
 exact⟨fun h=>List.length_eq_zero_iff.1 (by omega),fun h e=>by rw[e] at this;simp at this;omega⟩
theorem Db (l:List Int):(l.length=0->Ad l=[])/\(0<l.length->Ad l≠[]):=by
 have:=Bx l
 exact⟨fun h=>List.length_eq_zero_iff.1 (by omega),fun h e=>by rw[e] at this;simp at this;omega⟩
theorem Vk (l:ML):(l.length=0->Af l=[])/\(0<l.length->Af l≠[]):=by
 have:=Dx l
 exact⟨fun h=>List.length_eq_zero_iff.1 (by omega),fun h e=>by rw[e] at this;simp at this;omega⟩
theorem H5 (l:List TV):(l.length=0->Ap l=[])/\(0<l.length->Ap l≠[]):=by
 have:=Bo l
 exact⟨fun h=>List.length_eq_zero_iff.1 (by omega),fun h e=>by rw[e] at this;simp at this;omega⟩

def Aw:Nat->World->(Nat->Prop)->TV->Tr->Prop
 |0,_,_,_,_=>False
 | n + 1, w, F, x, T => x.lf = T.leaf ∧ Ao w F x.p T.pairs.length (Ai T.pairs) ∧ Ao w F x.c T.cuts.length (Ad T.cuts) ∧ Ao w F x.b T.buf.length (Af T.buf) ∧
   ∃xs:List TV,xs.length=T.kids.length/\Ao w F x.k xs.length (Ap xs)/\∀i,i<xs.length->Aw n w F (Az xs i) (AQ T i)
def Ah (n:Nat) (w:World) (F:Nat->Prop) (v:Value) (ts:List Tr):Prop:=
 ∃xs:List TV,xs.length=ts.length/\Ao w F v xs.length (Ap xs)/\∀i,i<xs.length->Aw n w F (Az xs i) (ts.getD i An)
theorem Aw.treeAt:∀ {n:Nat} {w:World} {F:Nat->Prop} {x:TV} {T:Tr},Aw n w F x T->AA n w x T
 |0,_,_,_,_,h=>h
 |_+1,_,_,_,_,⟨h1,h2,h3,h4,xs,h5,h6,h7⟩=>⟨h1,h2.row,h3.row,h4.row,xs,h5,h6.row,fun i hi=>(h7 i hi).treeAt⟩
theorem Aw.mono:∀ {n:Nat} {w:World} {F G:Nat->Prop} {x:TV} {T:Tr},Aw n w F x T->(∀g,F g->G g)->Aw n w G x T
 |0,_,_,_,_,_,h,_=>h
 |_+1,_,_,_,_,_,⟨h1,h2,h3,h4,xs,h5,h6,h7⟩,k=>⟨h1,h2.mono k,h3.mono k,h4.mono k,xs,h5,h6.mono k,fun i hi=>(h7 i hi).mono k⟩
theorem Aw.frame:∀ {n:Nat} {w w' :World} {F:Nat->Prop} {x:TV} {T:Tr},Aw n w F x T->(∀g,F g->g<w.heap.size->w'.heap[g]? =w.heap[g]?)->Aw n w' F x T
 |0,_,_,_,_,_,h,_=>h
 |_+1,_,_,_,_,_,⟨h1,h2,h3,h4,xs,h5,h6,h7⟩,k=>⟨h1,h2.frame k,h3.frame k,h4.frame k,xs,h5,h6.frame k,fun i hi=>(h7 i hi).frame k⟩
theorem Aw.lt:∀ {n:Nat} {w:World} {F:Nat->Prop} {x:TV} {T:Tr},Aw n w F x T->Aw n w (fun g=>F g/\g<w.heap.size) x T
 |0,_,_,_,_,h=>h
 |_+1,_,_,_,_,⟨h1,h2,h3,h4,xs,h5,h6,h7⟩=>⟨h1,h2.lt (P8 _).2,h3.lt (Db _).2,h4.lt (Vk _).2,xs,h5,h6.lt (H5 _).2,fun i hi=>(h7 i hi).lt⟩
theorem Aw.up:∀ {n:Nat} {w:World} {F:Nat->Prop} {x:TV} {T:Tr},Aw n w F x T->Aw (n+1) w F x T
 |0,_,_,_,_,h=>h.elim
 |_+1,_,_,_,_,⟨h1,h2,h3,h4,xs,h5,h6,h7⟩=>⟨h1,h2,h3,h4,xs,h5,h6,fun i hi=>(h7 i hi).up⟩
theorem Aw.le {n m:Nat} {w:World} {F:Nat->Prop} {x:TV} {T:Tr} (h:Aw n w F x T) (hm:n<=m):Aw m w F x T:=by
 induction hm with
 |refl=>exact h
 |step _ ih=>exact ih.up
theorem Aw.chg {n:Nat} {w w' :World} {F P:Nat->Prop} {x:TV} {T:Tr} (h:Aw n w F x T) (hc:Chg P w w') (hd:∀g,F g->¬P g):Aw n w' F x T:=h.frame fun g hg hl=>hc.block g hl (hd g hg)
theorem Aw.below {n:Nat} {w w' :World} {F:Nat->Prop} {x:TV} {T:Tr} (h:Aw n w F x T) (hb:Below w.heap.size w w'):Aw n w' F x T:=h.frame fun g _ hl=>hb.block g hl
theorem Ao.below {w w' :World} {F:Nat->Prop} {v:Value} {n:Nat} {xs:List Value} (h:Ao w F v n xs) (hb:Below w.heap.size w w'):Ao w' F v n xs:=h.frame fun g _ hl=>hb.block g hl
theorem Ao.chg {w w' :World} {F P:Nat->Prop} {v:Value} {n:Nat} {xs:List Value} (h:Ao w F v n xs) (hc:Chg P w w') (hd:∀g,F g->¬P g):Ao w' F v n xs:=h.frame fun g hg hl=>hc.block g hl (hd g hg)
theorem Ah.below {n:Nat} {w w' :World} {F:Nat->Prop} {v:Value} {ts:List Tr} (h:Ah n w F v ts) (hb:Below w.heap.size w w'):Ah n w' F v ts:=by
 obtain⟨xs,h1,h2,h3⟩:=h
 exact⟨xs,h1,h2.below hb,fun i hi=>(h3 i hi).below hb⟩
theorem Ah.chg {n:Nat} {w w' :World} {F P:Nat->Prop} {v:Value} {ts:List Tr} (h:Ah n w F v ts) (hc:Chg P w w') (hd:∀g,F g->¬P g):Ah n w' F v ts:=by
 obtain⟨xs,h1,h2,h3⟩:=h
 exact⟨xs,h1,h2.chg hc hd,fun i hi=>(h3 i hi).chg hc hd⟩
theorem Ah.mono {n:Nat} {w:World} {F G:Nat->Prop} {v:Value} {ts:List Tr} (h:Ah n w F v ts) (k:∀g,F g->G g):Ah n w G v ts:=by
 obtain⟨xs,h1,h2,h3⟩:=h
 exact⟨xs,h1,h2.mono k,fun i hi=>(h3 i hi).mono k⟩
theorem Aw.parts {n:Nat} {w:World} {F:Nat->Prop} {x:TV} {T:Tr} (h:Aw (n+1) w F x T) :
  x.lf=T.leaf/\Ao w F x.p T.pairs.length (Ai T.pairs)/\Ao w F x.c T.cuts.length (Ad T.cuts)/\Ao w F x.b T.buf.length (Af T.buf)/\Ah n w F x.k T.kids:=by
 obtain⟨h1,h2,h3,h4,xs,h5,h6,h7⟩:=h
 exact⟨h1,h2,h3,h4,xs,h5,h6,h7⟩
theorem Aw.mk {n:Nat} {w:World} {F:Nat->Prop} {x:TV} {T:Tr} (h1:x.lf=T.leaf) (h2:Ao w F x.p T.pairs.length (Ai T.pairs)) (h3:Ao w F x.c T.cuts.length (Ad T.cuts)) (h4:Ao w F x.b T.buf.length (Af T.buf)) (h5:Ah n w F x.k T.kids):Aw (n+1) w F x T:=by
 obtain⟨xs,h5,h6,h7⟩:=h5
 exact⟨h1,h2,h3,h4,xs,h5,h6,h7⟩
theorem Fe {n:Nat} {w:World} {F:Nat->Prop} {ts:List Tr} {xs:List TV} (h:∀i,i<xs.length->Aw n w F (Az xs i) (ts.getD i An)):∀y∈Ap xs,y.oneCell' =true:=by
 intro y hy;obtain⟨x,hx,hy2⟩:=List.mem_flatMap.1 hy
 obtain⟨i,hi,rfl⟩:=List.getElem_of_mem hx
 have:=h i hi
 have e:Az xs i=xs[i]:=by simp[Az,List.getD,hi]
 rw[e] at this
 obtain⟨a1,a2,a3,a4,c1,c2,c3,c4,hs⟩:=this.treeAt.shape
 rw[hs] at hy2
 simp[TV.cells] at hy2
 rcases hy2 with rfl|rfl|rfl|rfl|rfl<;>rfl

theorem Ao.nil (w:World) (F:Nat->Prop):Ao w F (.slice none 0 0) 0 []:=
 ⟨none,0,0,0,rfl,Nat.le_refl _,Nat.zero_le _,fun h=>absurd h (Nat.lt_irrefl _),fun j u hj=>by simp at hj,fun _=>rfl,fun _=>rfl⟩
theorem Ah.nil (n:Nat) (w:World) (F:Nat->Prop):Ah n w F (.slice none 0 0) []:=⟨[],rfl,Ao.nil w F,fun i hi=>by simp at hi⟩
end
end Go.Proofs.YtadmomgdacfgpaaGreat
