/-
  What comes of a tree that is given messages, as plain functions; shapes and weights.
  What shrunk messages do, key by key; plain mathematics.
-/
import Derived.Test.YtadmomgdacfgpaaGreatOfInjd8
namespace Go.Proofs.YtadmomgdacfgpaaGreat
set_option maxRecDepth 100000
set_option maxHeartbeats 8000000
section
open Go.RowKit

abbrev TM:=List Tr × List Int

def Ak (cs:List Int) (i:Nat) (b:ML):ML:=b.filter fun m=>decide (AH cs m.2.1=i)
def AW (cs:List Int) (i:Nat) (b:ML):ML:=b.filter fun m=> !decide (AH cs m.2.1=i)
theorem Lx (cs:List Int) (i:Nat) (b:ML) (j:Nat) (h:j<b.length):Ak cs i (b.take (j+1))=if AH cs (mK b j)=i then Ak cs i (b.take j)++[(mO b j,mK b j,mV b j)] else Ak cs i (b.take j):=by
 rw[DA b j h,Ak,List.filter_append]
 by_cases hq:AH cs (mK b j)=i
 ·rw[if_pos hq];simp[Ak,hq]
 ·rw[if_neg hq];simp[Ak,hq]
theorem KH (cs:List Int) (i:Nat) (b:ML) (j:Nat) (h:j<b.length):AW cs i (b.take (j+1))=if AH cs (mK b j)=i then AW cs i (b.take j) else AW cs i (b.take j)++[(mO b j,mK b j,mV b j)]:=by
 rw[DA b j h,AW,List.filter_append]
 by_cases hq:AH cs (mK b j)=i
 ·rw[if_pos hq];simp[AW,hq]
 ·rw[if_neg hq];simp[AW,hq]
theorem Ek (cs:List Int) (i:Nat) (b:ML):(Ak cs i b).length+(AW cs i b).length=b.length:=by
 induction b with
 |nil=>rfl
 |cons a l ih=>
  unfold Ak AW at *
  by_cases h:AH cs a.2.1=i<;>simp[h]<;>omega
theorem Cq (cs:List Int) (i:Nat) (b:ML):(Ak cs i b).length<=b.length:=List.length_filter_le _ _
theorem Iv (cs:List Int) (i:Nat) (b:ML):(AW cs i b).length<=b.length:=List.length_filter_le _ _
def GS (cs:List Int) (b:ML):Nat->Nat
 |0=>0
 |k+1=>GS cs b k+(Ak cs k b).length
theorem Ih (cs:List Int) (b:ML) (n:Nat):GS cs b n<=b.length:=by
 have key:∀n,GS cs b n=(b.filter fun m=>decide (AH cs m.2.1<n)).length:=by
  intro n;induction n with
  |zero=>
   rw[GS,List.filter_eq_nil_iff.2 (fun a _=>by simp)]
   rfl
  |succ n ih=>
   rw[GS,ih,Ak]
   clear ih;induction b with
   |nil=>rfl
   |cons a l ih=>
    rcases Nat.lt_trichotomy (AH cs a.2.1) n with h|h|h
    ·simp[show AH cs a.2.1<n from h,show ¬AH cs a.2.1=n by omega,show AH cs a.2.1<n+1 by omega];omega
    ·simp[h];omega
    ·simp[show ¬AH cs a.2.1<n by omega,show ¬AH cs a.2.1=n by omega,show ¬AH cs a.2.1<n+1 by omega];omega
 rw[key]
 exact List.length_filter_le _ _

def Ag (cs:List Int) (b:ML):Nat->Nat × Int
 |0=>(0, -1)
 |k+1=>if (Ag cs b k).2<((Ak cs k b).length:Int) then (k,((Ak cs k b).length:Int)) else Ag cs b k
theorem Dc (cs:List Int) (b:ML):∀n,0<n->(Ag cs b n).1<n/\(Ag cs b n).2=((Ak cs (Ag cs b n).1 b).length:Int):=by
 intro n hn;induction n with
 |zero=>omega
 |succ n ih=>
  rw[Ag]
  by_cases h:(Ag cs b n).2<((Ak cs n b).length:Int)
  ·rw[if_pos h];exact⟨Nat.lt_succ_self _,rfl⟩
  ·rw[if_neg h]
   rcases Nat.eq_zero_or_pos n with h0|h0
   ·subst h0;exfalso
    apply h
    simp only[Ag]
    omega
   ·exact⟨Nat.lt_succ_of_lt (ih h0).1,(ih h0).2⟩
theorem Jl (cs:List Int) (b:ML):∀n i,i<n->((Ak cs i b).length:Int)<=(Ag cs b n).2:=by
 intro n;induction n with
 |zero=>intro i h;omega
 |succ n ih=>
  intro i hi;rw[Ag]
  by_cases h:(Ag cs b n).2<((Ak cs n b).length:Int)
  ·rw[if_pos h]
   by_cases hin:i=n
   ·subst hin;exact Int.le_refl _
   ·have:=ih i (by omega)
    simp only
    omega
  ·rw[if_neg h]
   by_cases hin:i=n
   ·subst hin;omega
   ·exact ih i (by omega)
theorem Sw (cs:List Int) (b:ML):∀n, -1<=(Ag cs b n).2/\(Ag cs b n).2<=b.length/\(Ag cs b n).1<=n:=by
 intro n;rcases Nat.eq_zero_or_pos n with h0|h0
 ·subst h0;simp[Ag]
 ·have:=Dc cs b n h0
  have:=Cq cs (Ag cs b n).1 b
  omega
theorem Ey {cs:List Int} {b:ML} {n:Nat} (hb:0<b.length) (hn:cs.length<n):0<(Ak cs (Ag cs b n).1 b).length:=by
 have h1:=(Dc cs b n (by omega)).2
 have h2:=Jl cs b n (AH cs (b[0]'hb).2.1) (by have:=Gr cs (b[0]'hb).2.1;omega)
 have h3:0<(Ak cs (AH cs (b[0]'hb).2.1) b).length:=by
  apply List.length_pos_of_mem (a:=b[0]'hb)
  exact List.mem_filter.2 ⟨List.getElem_mem hb,by simp⟩
 omega

def AG (r:Nat):Nat:=if r=3 then 3 else 2
theorem Bh (r:Nat):AG r=2∨(AG r=3/\r=3):=by unfold AG;split<;>simp_all

def Dh (ps:PL):Tr:=⟨true,ps,[],[],[]⟩
def Lu (ps:PL):Nat->Nat->List Tr
 |0,_=>[]
 |f+1,i=>if i<ps.length then Dh ((ps.drop i).take (AG (ps.length-i)))::Lu ps f (i+AG (ps.length-i)) else []
def Lg (ps:PL):Nat->Nat->List Int
 |0,_=>[]
 |f+1,i=>if i<ps.length then (if 0<i then [kOf ps i] else [])++Lg ps f (i+AG (ps.length-i)) else []
def lfT (ps:PL) (i:Nat):List Tr:=Lu ps (ps.length-i) i
def lfC (ps:PL) (i:Nat):List Int:=Lg ps (ps.length-i) i
theorem Jo (ps:PL):∀f g i,ps.length-i<=f->ps.length-i<=g->Lu ps f i=Lu ps g i
 |0,0,_,_,_=>rfl
 |0,g+1,i,h,_=>by rw[Lu,Lu,if_neg (by omega)]
 |f+1,0,i,_,h=>by rw[Lu,Lu,if_neg (by omega)]
 |f+1,g+1,i,hf,hg=>by
  have:=Bh (ps.length-i)
  rw[Lu,Lu]
  split
  ·rw[Jo ps f g _ (by omega) (by omega)]
  ·rfl
theorem Jb (ps:PL):∀f g i,ps.length-i<=f->ps.length-i<=g->Lg ps f i=Lg ps g i
 |0,0,_,_,_=>rfl
 |0,g+1,i,h,_=>by rw[Lg,Lg,if_neg (by omega)]
 |f+1,0,i,_,h=>by rw[Lg,Lg,if_neg (by omega)]
 |f+1,g+1,i,hf,hg=>by
  have:=Bh (ps.length-i)
  rw[Lg,Lg]
  split
  ·rw[Jb ps f g _ (by omega) (by omega)]
  ·rfl
theorem Io (ps:PL) (i:Nat):lfT ps i=if i<ps.length then Dh ((ps.drop i).take (AG (ps.length-i)))::lfT ps (i+AG (ps.length-i)) else []:=by
 have h2:=Bh (ps.length-i)
 unfold lfT;rw[Jo ps (ps.length-i) (ps.length-i+1) i (by omega) (by omega),Lu]
 split
 ·rw[Jo ps (ps.length-i) (ps.length-(i+AG (ps.length-i))) _ (by omega) (by omega)]
 ·rfl
theorem Hh (ps:PL) (i:Nat):lfC ps i=if i<ps.length then (if 0<i then [kOf ps i] else [])++lfC ps (i+AG (ps.length-i)) else []:=by
 have h2:=Bh (ps.length-i)
 unfold lfC;rw[Jb ps (ps.length-i) (ps.length-i+1) i (by omega) (by omega),Lg]
 split
 ·rw[Jb ps (ps.length-i) (ps.length-(i+AG (ps.length-i))) _ (by omega) (by omega)]
 ·rfl
def leafM (ps:PL):TM:=if ps.length<=4 then ([Dh ps],[]) else (lfT ps 0,lfC ps 0)

def Fi (m:TM) (i:Nat):Tr:=⟨false,[],(m.2.drop i).take (AG (m.1.length-i)-1),(m.1.drop i).take (AG (m.1.length-i)),[]⟩
def Ln (m:TM):Nat->Nat->List Tr
 |0,_=>[]
 |f+1,i=>if i<m.1.length then Fi m i::Ln m f (i+AG (m.1.length-i)) else []
def Kn (m:TM):Nat->Nat->List Int
 |0,_=>[]
 |f+1,i=>if i<m.1.length then (if 0<i then [iAt m.2 (i-1)] else [])++Kn m f (i+AG (m.1.length-i)) else []
def pkT (m:TM) (i:Nat):List Tr:=Ln m (m.1.length-i) i
def pkC (m:TM) (i:Nat):List Int:=Kn m (m.1.length-i) i
theorem I6 (m:TM):∀f g i,m.1.length-i<=f->m.1.length-i<=g->Ln m f i=Ln m g i
 |0,0,_,_,_=>rfl
 |0,g+1,i,h,_=>by rw[Ln,Ln,if_neg (by omega)]
 |f+1,0,i,_,h=>by rw[Ln,Ln,if_neg (by omega)]
 |f+1,g+1,i,hf,hg=>by
  have:=Bh (m.1.length-i)
  rw[Ln,Ln]
  split
  ·rw[I6 m f g _ (by omega) (by omega)]
  ·rfl
theorem Jq (m:TM):∀f g i,m.1.length-i<=f->m.1.length-i<=g->Kn m f i=Kn m g i
 |0,0,_,_,_=>rfl
 |0,g+1,i,h,_=>by rw[Kn,Kn,if_neg (by omega)]
 |f+1,0,i,_,h=>by rw[Kn,Kn,if_neg (by omega)]
 |f+1,g+1,i,hf,hg=>by
  have:=Bh (m.1.length-i)
  rw[Kn,Kn]
  split
  ·rw[Jq m f g _ (by omega) (by omega)]
  ·rfl
theorem Ju (m:TM) (i:Nat):pkT m i=if i<m.1.length then Fi m i::pkT m (i+AG (m.1.length-i)) else []:=by
 have h2:=Bh (m.1.length-i)
 unfold pkT;rw[I6 m (m.1.length-i) (m.1.length-i+1) i (by omega) (by omega),Ln]
 split
 ·rw[I6 m (m.1.length-i) (m.1.length-(i+AG (m.1.length-i))) _ (by omega) (by omega)]
 ·rfl
theorem In (m:TM) (i:Nat):pkC m i=if i<m.1.length then (if 0<i then [iAt m.2 (i-1)] else [])++pkC m (i+AG (m.1.length-i)) else []:=by
 have h2:=Bh (m.1.length-i)
 unfold pkC;rw[Jq m (m.1.length-i) (m.1.length-i+1) i (by omega) (by omega),Kn]
 split
 ·rw[Jq m (m.1.length-i) (m.1.length-(i+AG (m.1.length-i))) _ (by omega) (by omega)]
 ·rfl
def Cs (m:TM):TM:=(pkT m 0,pkC m 0)

def Bv (m:TM) (i:Nat) (x:TM):TM:=(m.1.take i++x.1++m.1.drop (i+1),m.2.take i++x.2++m.2.drop i)

def AN (f:Nat->TM):Nat->List Tr
 |0=>[]
 |k+1=>AN f k++(f k).1
def Cp (f:Nat->TM) (cs:List Int):Nat->List Int
 |0=>[]
 |k+1=>(Cp f cs k++if 0<k then [iAt cs (k-1)] else [])++(f k).2
def Cn (g:Tr->ML->TM) (m:TM) (b:ML) (i:Nat):TM:=if 0<(Ak m.2 i b).length then g (m.1.getD i Am) (Ak m.2 i b) else ([m.1.getD i Am],[])
def Cx (g:Tr->ML->TM) (m:TM) (b:ML):TM:=(AN (Cn g m b) m.1.length,Cp (Cn g m b) m.2 m.1.length)

def Bi (g:Tr->ML->TM):Nat->TM->ML->TM × ML
 |0,m,b=>(m,b)
 |f+1,m,b=>if 6<b.length then Bi g f (Bv m (Ag m.2 b m.1.length).1 (g (m.1.getD (Ag m.2 b m.1.length).1 Am) (Ak m.2 (Ag m.2 b m.1.length).1 b))) (AW m.2 (Ag m.2 b m.1.length).1 b) else (m,b)

def Hz (g:Tr->ML->TM) (r:TM × ML):TM:=if 4<r.1.1.length then Cs (Cx g r.1 r.2) else ([⟨false,[],r.1.2,r.1.1,r.2⟩],[])
def Ac:Nat->Tr->ML->TM
 |0,T,_=>([T],[])
 | d + 1, T, ms => if T.leaf = true then leafM (Cb T.pairs ms) else
   Hz (Ac d) (Bi (Ac d) (At (T.buf++ms)).length (T.kids,T.cuts) (At (T.buf++ms)))

def Bt:Nat->TM->Tr
 |0,m=>m.1.getD 0 Am
 |f+1,m=>if 4<m.1.length then Bt f (Cs m) else if m.1.length=1 then m.1.getD 0 Am else ⟨false,[],m.2,m.1,[]⟩

def Gm (f:Nat->TM) (m:TM):TM:=(AN f m.1.length,Cp f m.2 m.1.length)
def Ce (o:TM):TM:=if 4<o.1.length then Cs o else ([⟨false,[],o.2,o.1,[]⟩],[])
def Qt:Nat->Tr->TM
 |0,T=>([T],[])
 | d + 1, T => if T.leaf = true then ([T], []) else
   Ce (Gm (fun i=>Qt d ((Cx (Ac d) (T.kids,T.cuts) T.buf).1.getD i Am)) (Cx (Ac d) (T.kids,T.cuts) T.buf))

def shT:Nat->Tr->Prop
 |0,_=>False
 | d + 1, T => (T.leaf = true ∧ d = 0 ∧ T.pairs.length ≤ 4 ∧ T.cuts = [] ∧ T.kids = [] ∧ T.buf = []) ∨
   (T.leaf=false/\T.pairs=[]/\2<=T.kids.length/\T.kids.length<=4/\T.cuts.length+1=T.kids.length/\T.buf.length<=6/\∀t∈T.kids,shT d t)
def wt:Nat->Tr->Nat
 |0,_=>0
 |d+1,T=>if T.leaf=true then 1 else (T.kids.map (wt d)).sum+T.buf.length
def wtL (d:Nat) (ts:List Tr):Nat:=(ts.map (wt d)).sum
theorem CP (d:Nat) (a b:List Tr):wtL d (a++b)=wtL d a+wtL d b:=by simp[wtL,List.sum_append]
theorem Gw (d:Nat) (t:Tr):wtL d [t]=wt d t:=by simp[wtL]
theorem He (d:Nat) (t:Tr) (l:List Tr):wtL d (t::l)=wt d t+wtL d l:=by simp[wtL]
theorem U7:∀ {d:Nat} {T:Tr},shT d T->1<=wt d T
 |0,_,h=>h.elim
 |d+1,T,h=>by
  rcases h with⟨h,_⟩|⟨h1,_,h2,_,_,_,h3⟩
  ·rw[wt,if_pos h];exact Nat.le_refl _
  ·rw[wt,if_neg (by rw[h1];simp)]
   match hk:T.kids with
   |[]=>rw[hk] at h2;simp at h2
   |t::l=>
    have:=U7 (h3 t (by rw[hk];simp))
    simp only[List.map_cons,List.sum_cons]
    omega
theorem Bw {d:Nat}:∀ {ts:List Tr},(∀t∈ts,shT d t)->ts.length<=wtL d ts
 |[],_=>Nat.le_refl _
 |t::l,h=>by
  have:=U7 (h t (by simp))
  have:=Bw (ts:=l) (fun u hu=>h u (by simp[hu]))
  rw[He]
  simp only[List.length_cons]
  omega

def MOk (d:Nat) (m:TM):Prop:=m.2.length+1=m.1.length/\∀t∈m.1,shT d t
theorem MOk.one {d:Nat} {t:Tr} (h:shT d t):MOk d ([t],[]):=⟨rfl,fun u hu=>by simp at hu;subst hu;exact h⟩
theorem BT {l:List Tr} {i:Nat} (h:i<l.length):l.getD i Am∈l:=by
 simp[List.getD,h]

theorem Qq {ps:PL} (h:ps.length<=4):shT 1 (Dh ps):= .inl ⟨rfl,rfl,h,rfl,rfl,rfl⟩
theorem Wv (ps:PL):∀n i,ps.length-i<=n->(2<=ps.length-i∨ps.length<=i)->(∀t∈lfT ps i,shT 1 t)/\(lfT ps i).length*2<=ps.length-i/\wtL 1 (lfT ps i)=(lfT ps i).length/\(lfC ps i).length+(if i=0/\0<ps.length then 1 else 0)=(lfT ps i).length:=by
 intro n;induction n with
 |zero=>
  intro i h h2;rw[Io,Hh,if_neg (show ¬i<ps.length by omega),if_neg (show ¬i<ps.length by omega),if_neg (show ¬(i=0/\0<ps.length) by omega)]
  exact⟨fun t ht=>by simp at ht,by simp,rfl,rfl⟩
 |succ n ih=>
  intro i h h2;rw[Io,Hh]
  by_cases hi:i<ps.length
  ·rw[if_pos hi,if_pos hi]
   have hm:=Bh (ps.length-i)
   obtain⟨k1,k2,k3,k4⟩:=ih (i+AG (ps.length-i)) (by omega) (by
    rcases hm with e|⟨e,e2⟩
    ·rw[e]
     have:AG (ps.length-i)≠3:=by omega
     have:ps.length-i≠3:=fun h3=>by rw[h3] at this;exact this rfl
     omega
    ·omega)
   refine⟨fun t ht=> ?_, ?_, ?_, ?_⟩
   ·rcases List.mem_cons.1 ht with rfl|ht
    ·exact Qq (by simp;omega)
    ·exact k1 t ht
   ·simp only[List.length_cons];omega
   ·rw[He,k3];simp[wt,Dh];omega
   ·simp only[List.length_cons,List.length_append]
    rw[if_neg (by omega)] at k4
    by_cases h0:i=0
    ·subst h0;simp[hi] at *;omega
    ·rw[if_pos (Nat.pos_of_ne_zero h0),if_neg (by omega)];simp;omega
  ·rw[if_neg hi,if_neg hi,if_neg (show ¬(i=0/\0<ps.length) by omega)]
   exact⟨fun t ht=>by simp at ht,by simp,rfl,rfl⟩
theorem UL {ps:PL} {L:Nat} (h:ps.length<=4+L) (hL:0<L):MOk 1 (leafM ps)/\wtL 1 (leafM ps).1<=1+L:=by
 unfold leafM;by_cases h4:ps.length<=4
 ·rw[if_pos h4]
  exact⟨MOk.one (Qq h4),by simp only[Gw,wt,Dh,if_true];omega⟩
 ·rw[if_neg h4]
  obtain⟨k1,k2,k3,k4⟩:=Wv ps ps.length 0 (by omega) (by omega)
  rw[if_pos ⟨rfl,by omega⟩] at k4
  exact⟨⟨k4,k1⟩,by simp only;rw[k3];omega⟩

theorem Ww {d:Nat} {m:TM} (hm:MOk d m):∀n i,m.1.length-i<=n->(2<=m.1.length-i∨m.1.length<=i)->(∀t∈pkT m i,shT (d+1) t)/\(pkT m i).length*2<=m.1.length-i/\wtL (d+1) (pkT m i)=wtL d (m.1.drop i)/\(pkC m i).length+(if i=0/\0<m.1.length then 1 else 0)=(pkT m i).length:=by
 intro n;induction n with
 |zero=>
  intro i h h2;rw[Ju,In,if_neg (show ¬i<m.1.length by omega),if_neg (show ¬i<m.1.length by omega),if_neg (show ¬(i=0/\0<m.1.length) by omega),List.drop_eq_nil_of_le (by omega)]
  exact⟨fun t ht=>by simp at ht,by simp,rfl,rfl⟩
 |succ n ih=>
  intro i h h2;rw[Ju,In]
  by_cases hi:i<m.1.length
  ·rw[if_pos hi,if_pos hi]
   have hmn:=Bh (m.1.length-i)
   obtain⟨k1,k2,k3,k4⟩:=ih (i+AG (m.1.length-i)) (by omega) (by
    rcases hmn with e|⟨e,e2⟩
    ·rw[e]
     have:AG (m.1.length-i)≠3:=by omega
     have:m.1.length-i≠3:=fun h3=>by rw[h3] at this;exact this rfl
     omega
    ·omega)
   refine⟨fun t ht=> ?_, ?_, ?_, ?_⟩
   ·rcases List.mem_cons.1 ht with rfl|ht
    ·refine .inr ⟨rfl,rfl, ?_, ?_, ?_,Nat.zero_le _,fun u hu=> ?_⟩
     ·simp[Fi];omega
     ·simp[Fi];omega
     ·have:=hm.1
      simp[Fi];omega
     ·exact hm.2 u (List.mem_of_mem_drop (List.mem_of_mem_take hu))
    ·exact k1 t ht
   ·simp only[List.length_cons];omega
   ·rw[He,k3,show wt (d+1) (Fi m i)=wtL d ((m.1.drop i).take (AG (m.1.length-i))) by simp[wt,Fi,wtL], ← CP]
    rw[show m.1.drop (i+AG (m.1.length-i))=(m.1.drop i).drop (AG (m.1.length-i)) by rw[List.drop_drop],List.take_append_drop]
   ·simp only[List.length_cons,List.length_append]
    rw[if_neg (by omega)] at k4
    by_cases h0:i=0
    ·subst h0;simp[hi] at *;omega
    ·rw[if_pos (Nat.pos_of_ne_zero h0),if_neg (by omega)];simp;omega
  ·rw[if_neg hi,if_neg hi,if_neg (show ¬(i=0/\0<m.1.length) by omega),List.drop_eq_nil_of_le (by omega)]
   exact⟨fun t ht=>by simp at ht,by simp,rfl,rfl⟩
theorem Gn {d:Nat} {m:TM} (hm:MOk d m) (h2:2<=m.1.length):MOk (d+1) (Cs m)/\wtL (d+1) (Cs m).1=wtL d m.1/\(Cs m).1.length*2<=m.1.length:=by
 obtain⟨k1,k2,k3,k4⟩:=Ww hm m.1.length 0 (by omega) (by omega)
 rw[if_pos ⟨rfl,by omega⟩] at k4
 exact⟨⟨k4,k1⟩,k3,k2⟩

theorem GW {d:Nat} {m x:TM} {i:Nat} (hm:MOk d m) (hx:MOk d x) (hi:i<m.1.length):MOk d (Bv m i x)/\wtL d (Bv m i x).1+wt d (m.1.getD i Am)=wtL d m.1+wtL d x.1/\(Bv m i x).1.length+1=m.1.length+x.1.length:=by
 obtain⟨h1,h2⟩:=hm
 obtain⟨h3,h4⟩:=hx
 refine⟨⟨?_,fun t ht=> ?_⟩, ?_, ?_⟩
 ·simp[Bv];omega
 ·simp only[Bv,List.mem_append] at ht
  rcases ht with(ht|ht)|ht
  ·exact h2 t (List.mem_of_mem_take ht)
  ·exact h4 t ht
  ·exact h2 t (List.mem_of_mem_drop ht)
 ·have e:m.1=m.1.take i++[m.1.getD i Am]++m.1.drop (i+1):=by
   have:m.1.getD i Am=m.1[i]:=by simp[List.getD,hi]
   rw[this,List.append_assoc,List.singleton_append, ← List.drop_eq_getElem_cons hi,List.take_append_drop]
  have e2:wtL d m.1=wtL d (m.1.take i)+wt d (m.1.getD i Am)+wtL d (m.1.drop (i+1)):=by
   conv=>lhs;rw[e]
   rw[CP,CP,Gw]
  rw[e2,Bv]
  simp only
  rw[CP,CP]
  omega
 ·simp[Bv];omega

theorem Nx {d:Nat} {m:TM} (f:Nat->TM) (a:Nat->Nat) (hf:∀i,i<m.1.length->MOk d (f i)/\wtL d (f i).1<=wt d (m.1.getD i Am)+a i) :
  ∀k,k<=m.1.length->(∀t∈AN f k,shT d t)/\(Cp f m.2 k).length+(if k=0 then 0 else 1)=(AN f k).length/\wtL d (AN f k)<=wtL d (m.1.take k)+((List.range k).map a).sum/\k<=(AN f k).length:=by
 intro k;induction k with
 |zero=>intro _;exact⟨fun t ht=>by simp[AN] at ht,rfl,by simp[AN,wtL],Nat.le_refl _⟩
 |succ k ih=>
  intro hk;obtain⟨k1,k2,k3,k4⟩:=ih (by omega)
  obtain⟨⟨f1,f2⟩,f3⟩:=hf k (by omega)
  refine⟨fun t ht=> ?_, ?_, ?_, ?_⟩
  ·rcases List.mem_append.1 ht with ht|ht
   ·exact k1 t ht
   ·exact f2 t ht
  ·simp only[Cp,AN,List.length_append]
   rw[if_neg (Nat.succ_ne_zero k)]
   by_cases h0:k=0
   ·subst h0;simp[Cp,AN] at *;omega
   ·rw[if_neg h0] at k2
    rw[if_pos (Nat.pos_of_ne_zero h0)];simp;omega
  ·rw[AN,CP,List.take_succ_eq_append_getElem (show k<m.1.length by omega),CP,Gw,List.range_succ,List.map_append,List.sum_append]
   rw[show m.1.getD k Am=m.1[k] by simp[List.getD,show k<m.1.length by omega]] at f3
   simp only[List.map_cons,List.map_nil,List.sum_cons,List.sum_nil]
   omega
  ·simp only[AN,List.length_append];omega
theorem U3 {d:Nat} {m:TM} (hm:MOk d m) (f:Nat->TM) (a:Nat->Nat) (hf:∀i,i<m.1.length->MOk d (f i)/\wtL d (f i).1<=wt d (m.1.getD i Am)+a i):MOk d (Gm f m)/\wtL d (Gm f m).1<=wtL d m.1+((List.range m.1.length).map a).sum/\m.1.length<=(Gm f m).1.length:=by
 obtain⟨k1,k2,k3,k4⟩:=Nx f a hf m.1.length (Nat.le_refl _)
 have:=hm.1
 rw[if_neg (by omega)] at k2
 rw[List.take_of_length_le (Nat.le_refl _)] at k3
 exact⟨⟨k2,k1⟩,k3,k4⟩
theorem Ld (g:Tr->ML->TM) (m:TM) (b:ML):Cx g m b=Gm (Cn g m b) m:=rfl

def Mr (d:Nat) (g:Tr->ML->TM):Prop:=∀T ms,shT d T->0<ms.length->MOk d (g T ms)/\wtL d (g T ms).1<=wt d T+ms.length
theorem E7 (cs:List Int) (b:ML):∀n,((List.range n).map fun i=>(Ak cs i b).length).sum=GS cs b n
 |0=>rfl
 |n+1=>by rw[List.range_succ,List.map_append,List.sum_append,E7 cs b n];simp[GS]
theorem Ke {d:Nat} {g:Tr->ML->TM} (hg:Mr d g) {m:TM} (hm:MOk d m) (b:ML):∀i,i<m.1.length->MOk d (Cn g m b i)/\wtL d (Cn g m b i).1<=wt d (m.1.getD i Am)+(Ak m.2 i b).length:=by
 intro i hi;unfold Cn;by_cases h:0<(Ak m.2 i b).length
 ·rw[if_pos h]
  exact hg _ _ (hm.2 _ (BT hi)) h
 ·rw[if_neg h]
  exact⟨MOk.one (hm.2 _ (BT hi)),by simp only[Gw];omega⟩
theorem Hi {d:Nat} {g:Tr->ML->TM} (hg:Mr d g) {m:TM} (hm:MOk d m) (b:ML):MOk d (Cx g m b)/\wtL d (Cx g m b).1<=wtL d m.1+b.length/\m.1.length<=(Cx g m b).1.length:=by
 obtain⟨k1,k2,k3⟩:=U3 hm (Cn g m b) (fun i=>(Ak m.2 i b).length) (Ke hg hm b)
 rw[E7] at k2
 have:=Ih m.2 b m.1.length
 rw[Ld]
 exact⟨k1,by omega,k3⟩

theorem La {d:Nat} {g:Tr->ML->TM} (hg:Mr d g):∀f m b,MOk d m->b.length<=f->MOk d (Bi g f m b).1/\wtL d (Bi g f m b).1.1+(Bi g f m b).2.length<=wtL d m.1+b.length/\m.1.length<=(Bi g f m b).1.1.length/\(Bi g f m b).2.length<=6
 |0,m,b,hm,hb=>⟨hm,Nat.le_refl _,Nat.le_refl _,by simp only[Bi];omega⟩
 |f+1,m,b,hm,hb=>by
  rw[Bi]
  by_cases h:6<b.length
  ·rw[if_pos h]
   have hp:=Ey (cs:=m.2) (b:=b) (n:=m.1.length) (by omega) (by have:=hm.1;omega)
   have hi:=(Dc m.2 b m.1.length (by have:=hm.1;omega)).1
   generalize (Ag m.2 b m.1.length).1=i at *
   have hk:=hg _ _ (hm.2 _ (BT hi)) hp
   have hmr:=Ek m.2 i b
   have hpm:=GW hm hk.1 hi
   have hlen:=hk.1.1
   obtain⟨k1,k2,k3,k4⟩:=La hg f _ (AW m.2 i b) hpm.1 (by omega)
   exact⟨k1,by omega,by omega,k4⟩
  ·rw[if_neg h]
   exact⟨hm,Nat.le_refl _,Nat.le_refl _,by simp only;omega⟩

theorem BE:∀d,Mr d (Ac d)
 |0=>fun _ _ h _=>h.elim
 |d+1=>fun T ms h hms=>by
  rcases h with⟨h1,rfl,h2,_⟩|⟨h1,_,h2,h3,h4,h5,h6⟩
  ·rw[Ac,if_pos h1]
   have:=Fd T.pairs ms
   obtain⟨k1,k2⟩:=UL (ps:=Cb T.pairs ms) (L:=ms.length) (by omega) hms
   exact⟨k1,by rw[wt,if_pos h1];exact k2⟩
  ·rw[Ac,if_neg (by rw[h1];simp)]
   have hl:=FQ (T.buf++ms)
   rw[List.length_append] at hl
   obtain⟨k1,k2,k3,k4⟩:=La (BE d) _ (T.kids,T.cuts) (At (T.buf++ms)) ⟨h4,h6⟩ (Nat.le_refl _)
   generalize Bi (Ac d) (At (T.buf++ms)).length (T.kids,T.cuts) (At (T.buf++ms))=r at *
   have hw:wt (d+1) T=wtL d T.kids+T.buf.length:=by rw[wt,if_neg (by rw[h1];simp)];rfl
   simp only at k2 k3
   unfold Hz;by_cases hr:4<r.1.1.length
   ·rw[if_pos hr]
    obtain⟨q1,q2,q3⟩:=Hi (BE d) k1 r.2
    obtain⟨p1,p2,_⟩:=Gn q1 (by omega)
    exact⟨p1,by omega⟩
   ·rw[if_neg hr]
    refine⟨MOk.one (.inr ⟨rfl,rfl,by simp only;omega,by simp only;omega,k1.1,k4,k1.2⟩), ?_⟩
    rw[Gw,wt,if_neg (by simp)]
    show wtL d r.1.1+r.2.length<=_
    omega

theorem LZ:∀f d m,MOk d m->m.1.length<=f->∃e,d<=e/\e<=d+f/\shT e (Bt f m)/\wt e (Bt f m)<=wtL d m.1
 |0,d,m,hm,hf=>absurd hm.1 (by omega)
 |f+1,d,m,hm,hf=>by
  rw[Bt]
  by_cases h:4<m.1.length
  ·rw[if_pos h]
   obtain⟨p1,p2,p3⟩:=Gn hm (by omega)
   obtain⟨e,e1,e2,e3,e4⟩:=LZ f (d+1) (Cs m) p1 (by omega)
   exact⟨e,by omega,by omega,e3,by omega⟩
  ·rw[if_neg h]
   by_cases h1:m.1.length=1
   ·rw[if_pos h1]
    refine⟨d,Nat.le_refl _,by omega,hm.2 _ (BT (by omega)), ?_⟩
    match hm1:m.1 with
    |[]=>rw[hm1] at h1;simp at h1
    |[t]=>simp[wtL]
    |_::_::_=>rw[hm1] at h1;simp at h1
   ·rw[if_neg h1]
    have:=hm.1
    refine⟨d+1,by omega,by omega, .inr ⟨rfl,rfl,by simp only;omega,by simp only;omega,hm.1,Nat.zero_le _,hm.2⟩, ?_⟩
    rw[wt,if_neg (by simp)]
    exact Nat.le_refl _

theorem JC {d:Nat}:∀ {ts:List Tr},(∀t∈ts,AU d t+3<=7*wt d t)->(ts.map (AU d)).sum+3*ts.length<=7*(ts.map (wt d)).sum
 |[],_=>by simp
 |t::l,h=>by
  have h1:=h t (by simp)
  have h2:=JC (ts:=l) (fun u hu=>h u (by simp[hu]))
  simp only[List.map_cons,List.sum_cons,List.length_cons]
  omega
theorem Rv:∀d T,shT d T->AU d T+3<=7*wt d T
 |0,_,h=>h.elim
 |d+1,T,h=>by
  rcases h with⟨h1,rfl,h2,h3,h4,h5⟩|⟨h1,h0,h2,h3,h4,h5,h6⟩
  ·rw[wt,if_pos h1,AU,h3,h4,h5]
   simp
   omega
  ·rw[wt,if_neg (by rw[h1];simp),AU,h0]
   have:=JC (fun t ht=>Rv d t (h6 t ht))
   simp only[List.length_nil]
   omega
theorem JM {d c:Nat}:∀ {ts:List Tr},(∀t∈ts,wt d t+2<=c)->(ts.map (wt d)).sum+2*ts.length<=ts.length*c
 |[],_=>by simp
 |t::l,h=>by
  have h1:=h t (by simp)
  have h2:=JM (ts:=l) (fun u hu=>h u (by simp[hu]))
  simp only[List.map_cons,List.sum_cons,List.length_cons,Nat.add_mul,Nat.one_mul]
  omega
theorem Wd:∀d T,shT d T->wt d T+2<=3*4^d
 |0,_,h=>h.elim
 |d+1,T,h=>by
  rcases h with⟨h1,rfl,_⟩|⟨h1,h0,h2,h3,h4,h5,h6⟩
  ·rw[wt,if_pos h1];decide
  ·rw[wt,if_neg (by rw[h1];simp),Nat.pow_succ]
   have h7:=JM (fun t ht=>Wd d t (h6 t ht))
   have h8:T.kids.length*(3*4^d)<=4*(3*4^d):=Nat.mul_le_mul_right _ h3
   have h9:2<=3*4^d:=by have:0<4^d:=Nat.pow_pos (by decide);omega
   rcases(show T.kids.length=2∨T.kids.length=3∨T.kids.length=4 by omega) with e|e|e<;>rw[e] at h7<;>omega

theorem Em:∀ {m:Nat} {T:Tr} {lo up:Int},AE m T lo up≠0->shT (AE m T lo up) T
 |0,_,_,_,h=>absurd rfl h
 |m+1,T,lo,up,h=>by
  cases hl:T.leaf
  ·have hk:=BJ h hl
   have hp:=Br hk.1
   have e:=Cv (m:=m) hl hk.1
   have he:=EZ (d:=Cm m T lo up) (n:=T.kids.length) (hk.2 0 (by omega)) (fun i hi=>by
    rcases Nat.decEq (Cm m T lo up i) (Cm m T lo up 0) with hne|he
    ·exact absurd (e.trans (Gk hi hne)) h
    ·exact he)
   rw[e,he]
   refine .inr ⟨hl,hp.1,hp.2.1.1,hp.2.1.2,hp.2.2.1,hp.2.2.2.1,fun t ht=> ?_⟩
   obtain⟨i,hi,rfl⟩:=List.getElem_of_mem ht
   have h1:=Em (hk.2 i hi)
   have h2:Cm m T lo up i=Cm m T lo up 0:=by
    rcases Nat.decEq (Cm m T lo up i) (Cm m T lo up 0) with hne|he
    ·exact absurd (e.trans (Gk hi hne)) h
    ·exact he
   rw[←h2]
   have h3:Ba T i=T.kids[i]:=by simp[Ba,List.getD,hi]
   rw[←h3]
   exact h1
  ·have hp:=DF (Cc h hl)
   have e:=Cu (m:=m) (lo:=lo) (hi:=up) hl
   rw[if_pos (Cc h hl)] at e
   rw[e]
   exact .inl ⟨hl,rfl,hp.2.1,hp.2.2.2.2.1,hp.2.2.1,hp.2.2.2.1⟩
end
section
def EJ (k:Int) (s:Int × Bool) (m:Int × Int × Int):Int × Bool:=
 if m.2.1=k then (if m.1=1 then (m.2.2,true) else if m.1=2 then (0,false) else if m.1=3 then (A0 (s.1+m.2.2),true) else s) else s
theorem ES {k:Int} {s:Int × Bool} {m:Int × Int × Int} (h:m.2.1≠k):EJ k s m=s:=by rw[EJ,if_neg h]
theorem GX {k:Int} (l:ML) (h:∀m∈l,m.2.1≠k) (s:Int × Bool):l.foldl (EJ k) s=s:=by
 induction l generalizing s with
 |nil=>rfl
 |cons m l ih=>rw[List.foldl_cons,ES (h m (by simp))];exact ih (fun q hq=>h q (by simp[hq])) s
theorem Og {k:Int} (l:ML) (h:D0 l k=true) (s s' :Int × Bool):(BG l).foldl (EJ k) s=(BG l).foldl (EJ k) s' :=by
 induction l generalizing s s' with
 |nil=>simp[D0] at h
 |cons m l ih=>
  rw[D0,List.any_cons, ← D0,Bool.or_eq_true] at h
  by_cases h1:okM m=true
  ·rw[BG,List.filter_cons_of_pos h1,List.foldl_cons,List.foldl_cons]
   rcases h with h|h
   ·simp only[h1,Bool.true_and,Bool.and_eq_true,beq_iff_eq,Gf,Bool.or_eq_true] at h
    have e:EJ k s m=EJ k s' m:=by
     unfold EJ;rw[if_pos h.1,if_pos h.1]
     rcases h.2 with h2|h2
     ·rw[if_pos h2,if_pos h2]
     ·have h3:m.1≠1:=by omega
      rw[if_neg h3,if_neg h3,if_pos h2,if_pos h2]
    rw[e]
   ·exact ih h _ _
  ·rw[BG,List.filter_cons_of_neg h1]
   rcases h with h|h
   ·simp[h1] at h
   ·exact ih h _ _
theorem UY (k:Int) (l:ML) (s:Int × Bool):(Do l).foldl (EJ k) s=(BG l).foldl (EJ k) s:=by
 induction l generalizing s with
 |nil=>rfl
 |cons m l ih=>
  rw[Do]
  by_cases h1:okM m=true
  ·have e:BG (m::l)=m::BG l:=by rw[BG,List.filter_cons_of_pos h1];rfl
   rw[e,List.foldl_cons]
   by_cases h2:m.1=4
   ·rw[if_neg (by simp[h2]),ih]
    have:EJ k s m=s:=by simp[EJ,h2]
    rw[this]
   ·cases hb:D0 l m.2.1
    ·rw[if_pos ⟨h1,h2,rfl⟩,List.foldl_cons,ih]
    ·rw[if_neg (by simp),ih]
     by_cases hk:m.2.1=k
     ·subst hk;exact Og l hb _ _
     ·rw[ES hk]
  ·have e:BG (m::l)=BG l:=by rw[BG,List.filter_cons_of_neg h1];rfl
   rw[if_neg (by simp[h1]),e,ih]

def HQ (A:ML):Prop:=A.Pairwise fun a b=>a.2.1=b.2.1->a.1≠1/\Gf b=false
theorem Kt {A:ML} {m:Int × Int × Int} (h:CD A m=true):m.1=3/\∃n,AQ A m.2.1=(n:Nat)/\n<A.length/\mK A n=m.2.1/\mO A n=1:=by
 simp only[CD,Bool.and_eq_true,decide_eq_true_eq,beq_iff_eq] at h
 obtain⟨h0,h1,h3⟩:=h
 refine⟨h3, ?_⟩
 rcases Di A m.2.1 with⟨q,_⟩|⟨n,q1,q2,q3,q4⟩
 ·omega
 ·exact⟨n,q1,q2,q3,by rw[q1] at h1;simpa using h1⟩
theorem HQ.parts {X Y:ML} {p:Int × Int × Int} (h:HQ (X++p::Y)):HQ X/\(∀b∈Y,p.2.1=b.2.1->p.1≠1/\Gf b=false)/\HQ Y/\(∀a∈X,(a.2.1=p.2.1->a.1≠1/\Gf p=false)/\∀b∈Y,a.2.1=b.2.1->a.1≠1/\Gf b=false):=by
 obtain⟨h1,h2,h3⟩:=List.pairwise_append.1 h
 obtain⟨h4,h5⟩:=List.pairwise_cons.1 h2
 exact⟨h1,h4,h5,fun a ha=>⟨h3 a ha p (by simp),fun b hb=>h3 a ha b (by simp[hb])⟩⟩
theorem HQ.mk {X Y:ML} {p:Int × Int × Int} (h1:HQ X) (h4:∀b∈Y,p.2.1=b.2.1->p.1≠1/\Gf b=false) (h5:HQ Y) (h3:∀a∈X,(a.2.1=p.2.1->a.1≠1/\Gf p=false)/\∀b∈Y,a.2.1=b.2.1->a.1≠1/\Gf b=false):HQ (X++p::Y):=by
 refine List.pairwise_append.2 ⟨h1,List.pairwise_cons.2 ⟨h4,h5⟩,fun a ha b hb=> ?_⟩
 rcases List.mem_cons.1 hb with rfl|hb
 ·exact(h3 a ha).1
 ·exact(h3 a ha).2 b hb
theorem Pg (A:ML) {n:Nat} (h:n<A.length):A=A.take n++(mO A n,mK A n,mV A n)::A.drop (n+1):=by
 have e:=List.drop_eq_getElem_cons h
 rw[D7 A n h] at e
 rw[←e,List.take_append_drop]
theorem Qo {A:ML} {m:Int × Int × Int} {n:Nat} (hj:CD A m=true) (hf:AQ A m.2.1=(n:Nat)) (hn:n<A.length) (hk:mK A n=m.2.1) (ho:mO A n=1) :
  BD A m=A.take n++(1,m.2.1,A0 (mV A n+m.2.2))::A.drop (n+1):=by
 rw[BD,if_pos hj,hf,Int.toNat_natCast,ho,hk,List.set_eq_take_append_cons_drop,if_pos hn]
theorem Ss {A:ML} (hA:HQ A) {m:Int × Int × Int} (hm:okN m) (hr:Gf m=true->∀a∈A,a.2.1≠m.2.1):HQ (BD A m):=by
 cases hj:CD A m
 ·have e:BD A m=A++[m]:=by rw[BD,hj];rfl
  rw[e]
  refine HQ.mk hA (fun b hb=>by simp at hb) List.Pairwise.nil (fun a ha=>⟨fun he=> ?_,fun b hb=>by simp at hb⟩)
  have hnr:Gf m=false:=by
   cases hb:Gf m
   ·rfl
   ·exact absurd he (hr hb a ha)
  refine⟨fun h1=> ?_,hnr⟩
  have h3:m.1=3:=by
   have:=(Cw hm.1).1
   have h4:=hm.2
   simp only[Gf,Bool.or_eq_false_iff,beq_eq_false_iff_ne] at hnr
   have:=hnr.1;have:=hnr.2
   omega
  rcases Di A m.2.1 with⟨_,q⟩|⟨n,q1,q2,q3,q4⟩
  ·exact q a ha he
  ·have ho:mO A n≠1:=fun ho=>by
    have:CD A m=true:=by simp[CD,q1,ho,h3]
    rw[hj] at this;cases this
   obtain⟨i,hi,rfl⟩:=List.getElem_of_mem ha
   rw[D7 A i hi] at he h1
   simp only at he h1
   have hin:i≠n:=fun e=>by subst e;exact ho h1
   have hlt:¬i<n:=fun hlt=>q4 i hlt he
   have:=List.pairwise_iff_getElem.1 hA n i q2 hi (by omega)
   rw[D7 A n q2,D7 A i hi] at this
   have:=(this (by simp only;omega)).2
   simp[Gf,h1] at this
 ·obtain⟨h3,n,q1,q2,q3,q4⟩:=Kt hj
  rw[Qo hj q1 q2 q3 q4]
  have hs:=Pg A q2
  rw[q3,q4] at hs
  rw[hs] at hA
  obtain⟨g1,g2,g3,g4⟩:=hA.parts
  exact HQ.mk g1 g2 g3 g4
theorem U2 {A:ML} (hA:HQ A) (m:Int × Int × Int) (k:Int) (s:Int × Bool):(BD A m).foldl (EJ k) s=EJ k (A.foldl (EJ k) s) m:=by
 cases hj:CD A m
 ·have e:BD A m=A++[m]:=by rw[BD,hj];rfl
  rw[e,List.foldl_append];rfl
 ·obtain⟨h3,n,q1,q2,q3,q4⟩:=Kt hj
  rw[Qo hj q1 q2 q3 q4]
  have hs:=Pg A q2
  rw[q3,q4] at hs
  have hA' :=hA
  rw[hs] at hA'
  obtain⟨_,g2,_,_⟩:=hA'.parts
  have hY:∀b∈A.drop (n+1),b.2.1≠m.2.1:=fun b hb he=>(g2 b hb he.symm).1 rfl
  have hA2:A.foldl (EJ k) s=(A.drop (n+1)).foldl (EJ k) (EJ k ((A.take n).foldl (EJ k) s) (1,m.2.1,mV A n)):=by
   conv=>lhs;rw[hs]
   rw[List.foldl_append,List.foldl_cons]
  rw[hA2,List.foldl_append,List.foldl_cons]
  by_cases hk:m.2.1=k
  ·subst hk;rw[GX _ hY,GX _ hY]
   simp[EJ,h3]
  ·rw[ES (m:=(1,m.2.1,A0 (mV A n+m.2.2))) hk,ES (m:=(1,m.2.1,mV A n)) hk,ES (m:=m) hk]
theorem Uf (l:ML) (hl:UU l) (ho:∀m∈l,okN m) (A:ML) (h:HQ A) (hA:∀m∈l,Gf m=true->∀a∈A,a.2.1≠m.2.1) (k:Int) (s:Int × Bool) :
  HQ (l.foldl BD A)/\(l.foldl BD A).foldl (EJ k) s=l.foldl (EJ k) (A.foldl (EJ k) s):=by
 induction l generalizing A with
 |nil=>exact⟨h,rfl⟩
 |cons m l ih=>
  obtain⟨hl1,hl2⟩:=List.pairwise_cons.1 hl
  rw[List.foldl_cons,List.foldl_cons, ← U2 h]
  refine ih hl2 (fun q hq=>ho q (by simp[hq])) (BD A m) (Ss h (ho m (by simp)) (hA m (by simp))) (fun q hq hr=> ?_)
  refine Jn A m q.2.1 (hA q (by simp[hq]) hr) (fun he=> ?_)
  have:=hl1 q hq he
  rw[hr] at this;cases this
theorem Pj (ms:ML) (k:Int) (s:Int × Bool):HQ (At ms)/\(At ms).foldl (EJ k) s=(BG ms).foldl (EJ k) s:=by
 have:=Uf (Do ms) (LU ms) (fun m hm=>(IC ms m hm).2) [] List.Pairwise.nil (fun m _ _ a ha=>by simp at ha) k s
 rw[←UY]
 exact this
theorem PP (ms:ML):BG (At ms)=At ms:=List.filter_eq_self.2 (fun a ha=>(LH ms a ha).1)
theorem RU (k:Int) (ms:ML) (s:Int × Bool):(BG ms).foldl (EJ k) s=Eh s (ofK ms k):=by
 induction ms generalizing s with
 |nil=>rfl
 |cons m ms ih=>
  by_cases hk:m.2.1=k
  ·have e2:ofK (m::ms) k=m::ofK ms k:=by simp[ofK,hk]
   rw[e2]
   show _=Eh (Tq s m) (ofK ms k)
   by_cases h1:okM m=true
   ·have e:BG (m::ms)=m::BG ms:=by rw[BG,List.filter_cons_of_pos h1];rfl
    rw[e,List.foldl_cons,ih]
    congr 1
    have h1' :AJ m.1 m.2.1 m.2.2=true:=h1
    unfold EJ Tq;rw[if_pos hk,if_pos h1']
   ·have e:BG (m::ms)=BG ms:=by rw[BG,List.filter_cons_of_neg h1];rfl
    have h1' :¬AJ m.1 m.2.1 m.2.2=true:=h1
    rw[e,ih,Tq,if_neg h1']
  ·have e2:ofK (m::ms) k=ofK ms k:=by simp[ofK,hk]
   rw[e2]
   by_cases h1:okM m=true
   ·have e:BG (m::ms)=m::BG ms:=by rw[BG,List.filter_cons_of_pos h1];rfl
    rw[e,List.foldl_cons,ES hk,ih]
   ·have e:BG (m::ms)=BG ms:=by rw[BG,List.filter_cons_of_neg h1];rfl
    rw[e,ih]
theorem Q5 (k:Int) (ms:ML) (s:Int × Bool):Eh s (ofK (At ms) k)=Eh s (ofK ms k):=by
 rw[←RU, ← RU,PP]
 exact(Pj ms k s).2
theorem LW (k:Int):∀(l A:ML),(∀m∈l,m.2.1≠k)->(∀a∈A,a.2.1≠k)->∀a∈l.foldl BD A,a.2.1≠k
 |[],_,_,hA=>hA
 |m::l,A,hl,hA=>LW k l (BD A m) (fun q hq=>hl q (List.mem_cons_of_mem _ hq)) (Jn A m k hA (hl m List.mem_cons_self))
theorem OI {ms:ML} {a:Int × Int × Int} (h:a∈At ms):∃m∈ms,m.2.1=a.2.1:=by
 refine Classical.byContradiction fun hn=> ?_
 have h1:∀m∈Do ms,m.2.1≠a.2.1:=fun m hm he=>hn ⟨m,(IC ms m hm).1,he⟩
 exact LW a.2.1 (Do ms) [] h1 (fun x hx=>by simp at hx) a h rfl
end
end Go.Proofs.YtadmomgdacfgpaaGreat
