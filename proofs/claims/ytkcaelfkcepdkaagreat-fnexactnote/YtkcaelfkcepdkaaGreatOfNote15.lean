/-
  What becomes of a tree in memory of its own when one of its rows is appended to, or written.
  The laws' own function that writes marks into a tree: it ends, counts the marks, and writes within given bounds alone.
  Marks of whole trees: the marked tree as plain data; heldTree at it.
-/
import Derived.Test.YtkcaelfkcepdkaaGreatOfNote14
import Derived.Test.YtkcaelfkcepdkaaGreatOfNote3
import Derived.Test.YtkcaelfkcepdkaaGreatOfNote1
import Derived.Test.YtkcaelfkcepdkaaGreatOfNote12
import Derived.Test.YtkcaelfkcepdkaaGreatOfNote13
import Derived.Deep.DeepCutAuto
import Derived.Deep.CutBlock
namespace Go.Proofs.YtkcaelfkcepdkaaGreat
set_option maxRecDepth 100000
set_option maxHeartbeats 8000000
section
open Go.RowKit

theorem Ac.block {w:World} {base e size n:Nat} {v:Value} {xs:List Value} (h:Ac w base e size v n xs):∀g,wrB v g->∃cur,w.heap[g]? =some (.cells cur e (0,0)):=by
 rintro g ⟨k,cap,rfl,hc⟩
 rcases h with h|⟨_,_,g',hg⟩
 ·obtain⟨_,⟨h1,_⟩|⟨g',cap',cur,h1,hg,hh,_⟩⟩:=h
  ·simp at h1
  ·simp at h1
   rw[←h1.1] at hh
   exact⟨cur,hh⟩
 ·simp at hg
  omega
theorem Ac.apart {w:World} {b1 b2 e1 e2 s1 s2 n1 n2:Nat} {v1 v2:Value} {x1 x2:List Value} (h1:Ac w b1 e1 s1 v1 n1 x1) (h2:Ac w b2 e2 s2 v2 n2 x2) (he:e1≠e2):∀g,wrB v1 g->¬wrB v2 g:=by
 intro g k1 k2;obtain⟨c1,j1⟩:=h1.block g k1
 obtain⟨c2,j2⟩:=h2.block g k2
 rw[j1] at j2
 simp at j2
 exact he j2.2
theorem Ac.pos {w:World} {base e size n:Nat} {v:Value} {xs:List Value} (h:Ac w base e size v n xs) (hn:0<n):∃g cap,v= .slice (some ⟨g,0,none⟩) n cap/\0<cap/\n<=cap:=by
 rcases h with h|⟨h,_⟩
 ·obtain⟨g,cap,h1,h2,h3⟩:=h.form hn
  refine⟨g,cap,h1, ?_, ?_⟩
  ·obtain⟨_,⟨k1,_⟩|⟨g',cap',cur,k1,_,_,k4,_⟩⟩:=h
   ·rw[h1] at k1;simp at k1
   ·rw[h1] at k1;simp at k1;omega
  ·obtain⟨_,⟨k1,_⟩|⟨g',cap',cur,k1,_,_,k4,_⟩⟩:=h
   ·rw[h1] at k1;simp at k1
   ·rw[h1] at k1;simp at k1;omega
 ·omega

variable {n:Nat} {w w' :World} {F:Nat->Prop} {lf:Bool} {p c k b:Value} {T:Tr}
end
section
open Go.RowKit

def Um (t j:Nat) (v v' :Value):Prop:=v' =v∨(t≠69/\(∃x,v= .int .i64 x)/\∃x,v' = .int .i64 x)∨(t=69/\j%5=0/\(∃b,v= .bool b)/\∃b,v' = .bool b)
structure Mk (lo hi:Nat) (w w' :World):Prop where
 chg:Chg (fun g=>lo<=g/\g<hi) w w'
 like:∀g A t,lo<=g->g<hi->w.heap[g]? =some (.cells A t (0,0))->∃A' :Array Value,w'.heap[g]? =some (.cells A' t (0,0))/\∀j v,A[j]? =some v->∃v',A'[j]? =some v' ∧Um t j v v'
def Blk (w:World) (g t m:Nat):Prop:=∃A:Array Value,w.heap[g]? =some (.cells A t (0,0))/\∀j,j<m->∃x,A[j]? =some (.int .i64 x)
def NK (w:World) (lo hi:Nat) (v:Value) (n size:Nat):Prop:=
 ∃(a:Option Addr) (g cap t:Nat),v= .slice a n cap/\n<=cap/\cap<=maxLen/\(0<n->a=some ⟨g,0,none⟩/\lo<=g/\g<hi/\t≠69/\Blk w g t (n*size))
def Uz (w:World) (g:Nat) (xs:List TV):Prop:=∃A:Array Value,w.heap[g]? =some (.cells A 69 (0,0))/\∀i,i<xs.length->(∃b,A[i*5]? =some (.bool b))/\A[i*5+1]? =some (Ak xs i).p/\A[i*5+2]? =some (Ak xs i).c/\A[i*5+3]? =some (Ak xs i).k/\A[i*5+4]? =some (Ak xs i).b
def Oa (w:World) (lo hi:Nat) (v:Value) (xs:List TV):Prop:=
 ∃(a:Option Addr) (g cap:Nat),v= .slice a xs.length cap/\xs.length<=cap/\cap<=maxLen/\(0<xs.length->a=some ⟨g,0,none⟩/\lo<=g/\g<hi/\Uz w g xs)
def QG:Nat->World->Nat->Nat->TV->Tr->Prop
 |0,_,_,_,_,_=>False
 | n + 1, w, lo, hi, x, T => NK w lo hi x.p T.pairs.length 2 ∧ NK w lo hi x.c T.cuts.length 1 ∧ NK w lo hi x.b T.buf.length 3 ∧
   ∃xs:List TV,xs.length=T.kids.length/\Oa w lo hi x.k xs/\∀i,i<xs.length->QG n w lo hi (Ak xs i) (T.kids.getD i AR)
def Rj (n:Nat) (w:World) (lo hi:Nat) (v:Value) (ts:List Tr):Prop:=
 ∃xs:List TV,xs.length=ts.length/\Oa w lo hi v xs/\∀i,i<xs.length->QG n w lo hi (Ak xs i) (ts.getD i AR)
def mkT:Nat->Tr->Nat
 |0,_=>0
 |n+1,T=>2*T.pairs.length+T.cuts.length+(T.kids.length+(T.kids.map (mkT n)).sum)+3*T.buf.length
def CX (n:Nat) (ts:List Tr) (i:Nat):Nat:=i+((ts.take i).map (mkT n)).sum
def B6 (n:Nat) (ts:List Tr):Nat:=ts.length+(ts.map (mkT n)).sum
theorem Jo (n:Nat) (ts:List Tr) (i:Nat) (h:i<ts.length):CX n ts (i+1)=CX n ts i+(1+mkT n (ts.getD i AR)):=by
 rw[CX,CX,List.take_succ_eq_append_getElem h,List.map_append,List.sum_append]
 simp[List.getD,h]
 omega
theorem JF (n:Nat) (ts:List Tr):CX n ts ts.length=B6 n ts:=by simp[CX,B6]
theorem Oo (n:Nat) (ts:List Tr) (i:Nat) (hi:i<=ts.length):CX n ts i<=B6 n ts:=by
 have h:(ts.map (mkT n)).sum=((ts.take i).map (mkT n)).sum+((ts.drop i).map (mkT n)).sum:=by
  rw[←List.sum_append, ← List.map_append,List.take_append_drop]
 rw[CX,B6,h]
 omega
theorem Hm:∀(n:Nat) (T:Tr),mkT n T<=3*Az n T
 |0,_=>Nat.zero_le _
 |n+1,T=>by
  have:∀ts:List Tr,(ts.map (mkT n)).sum<=3*(ts.map (Az n)).sum:=fun ts=>by
   induction ts with
   |nil=>simp
   |cons t ts ih=>
    have:=Hm n t
    simp only[List.map_cons,List.sum_cons]
    omega
  have:=this T.kids
  rw[mkT,Az]
  omega

def UJ (n:Nat):Prop:=∀(v:Value) (ts:List Tr) (k:Int) (w:World) (lo hi:Nat),Rj n w lo hi v ts->0<=k->k+(B6 n ts:Nat)<=1099511627776→
 Calls Tryz.prog 48 #[v, .int .i64 k] w fun e w' =>e= .returned (.int .i64 (k+(B6 n ts:Nat)))/\Mk lo hi w w'
end
section
open Go.RowKit

theorem Gl (base:Nat) (v:Value) (l:ML) (k:Int) (w:World) (h:Ac w base 115 3 v l.length (AW l)) (hn:l.length<=67108864) (hk0:0<=k) (hk1:k<=67108864) :
  Calls Tryz.prog 49 #[v, .int .i64 k] w fun e w' =>e= .returned (.int .i64 (k+3*l.length))/\Ac w' base 115 3 v l.length (AW (Bl k l.length))/\Chg (fun g=>wrB v g) w w' :=by
 rcases h with h|⟨h0,h1,g,rfl⟩
 ·obtain⟨a,cap,hv⟩:=BQ h
  subst hv;by_cases hc:0<l.length
  ·refine(J7 _ l k w (A6 h (Nat.zero_le _)) (by omega) hk0 (by omega)).mono ?_
   rintro e w' ⟨rfl,o,c⟩
   have hb:∀g,(Value.slice a l.length cap).ownBlock=some g->wrB (.slice a l.length cap) g:=fun g hg=>by
    obtain⟨_,⟨e,e2⟩|⟨g',cap',cur,e,_,_,hle,_⟩⟩:=h
    ·omega
    ·simp at e
     obtain⟨rfl,rfl⟩:=e
     simp[Value.ownBlock] at hg
     subst hg;exact⟨_,_,rfl,by omega⟩
   refine⟨rfl, .inl ?_,c.mono (fun g _ hg=>hb g hg)⟩
   obtain⟨hl,h1|⟨g,cap',cur,e,hg,hh,hn',hcap,hsz,ht⟩⟩:=o
   ·exact⟨hl, .inl h1⟩
   ·exact⟨hl, .inr ⟨g,cap',cur,e,(h.lt g (by rw[e];rfl)).1,hh,hn',hcap,hsz,ht⟩⟩
  ·have hl:l=[]:=List.length_eq_zero_iff.1 (by omega)
   subst hl;refine(Hb a cap k w).mono ?_
   rintro e w' ⟨rfl,rfl⟩
   exact⟨by simp, .inl h,Chg.refl _ _⟩
 ·have hl:l=[]:=List.length_eq_zero_iff.1 h0
  subst hl;refine(Hb _ 0 k w).mono ?_
  rintro e w' ⟨rfl,rfl⟩
  exact⟨by simp, .inr ⟨rfl,rfl,g,rfl⟩,Chg.refl _ _⟩
theorem Fp (base:Nat) (v:Value) (l:List (Int × Int)) (k:Int) (w:World) (h:Ac w base 157 2 v l.length (AF l)) (hn:l.length<=67108864) (hk0:0<=k) (hk1:k<=67108864) :
  Calls Tryz.prog 46 #[v, .int .i64 k] w fun e w' =>e= .returned (.int .i64 (k+2*l.length))/\Ac w' base 157 2 v l.length (AF (Bn k l.length))/\Chg (fun g=>wrB v g) w w' :=by
 rcases h with h|⟨h0,h1,g,rfl⟩
 ·obtain⟨a,cap,hv⟩:=BQ h
  subst hv;by_cases hc:0<l.length
  ·refine(LY _ l k w (A6 h (Nat.zero_le _)) (by omega) hk0 (by omega)).mono ?_
   rintro e w' ⟨rfl,o,c⟩
   have hb:∀g,(Value.slice a l.length cap).ownBlock=some g->wrB (.slice a l.length cap) g:=fun g hg=>by
    obtain⟨_,⟨e,e2⟩|⟨g',cap',cur,e,_,_,hle,_⟩⟩:=h
    ·omega
    ·simp at e
     obtain⟨rfl,rfl⟩:=e
     simp[Value.ownBlock] at hg
     subst hg;exact⟨_,_,rfl,by omega⟩
   refine⟨rfl, .inl ?_,c.mono (fun g _ hg=>hb g hg)⟩
   obtain⟨hl,h1|⟨g,cap',cur,e,hg,hh,hn',hcap,hsz,ht⟩⟩:=o
   ·exact⟨hl, .inl h1⟩
   ·exact⟨hl, .inr ⟨g,cap',cur,e,(h.lt g (by rw[e];rfl)).1,hh,hn',hcap,hsz,ht⟩⟩
  ·have hl:l=[]:=List.length_eq_zero_iff.1 (by omega)
   subst hl;refine(Gi a cap k w).mono ?_
   rintro e w' ⟨rfl,rfl⟩
   exact⟨by simp, .inl h,Chg.refl _ _⟩
 ·have hl:l=[]:=List.length_eq_zero_iff.1 h0
  subst hl;refine(Gi _ 0 k w).mono ?_
  rintro e w' ⟨rfl,rfl⟩
  exact⟨by simp, .inr ⟨rfl,rfl,g,rfl⟩,Chg.refl _ _⟩
theorem Ea (base:Nat) (v:Value) (l:List Int) (k:Int) (w:World) (h:Ac w base 3 1 v l.length (Am l)) (hn:l.length<=67108864) (hk0:0<=k) (hk1:k<=67108864) :
  Calls Tryz.prog 47 #[v, .int .i64 k] w fun e w' =>e= .returned (.int .i64 (k+l.length))/\Ac w' base 3 1 v l.length (Am (AS k l.length))/\Chg (fun g=>wrB v g) w w' :=by
 rcases h with h|⟨h0,h1,g,rfl⟩
 ·obtain⟨a,cap,hv⟩:=BQ h
  subst hv;by_cases hc:0<l.length
  ·refine(MI _ l k w (A6 h (Nat.zero_le _)) (by omega) hk0 (by omega)).mono ?_
   rintro e w' ⟨rfl,o,c⟩
   have hb:∀g,(Value.slice a l.length cap).ownBlock=some g->wrB (.slice a l.length cap) g:=fun g hg=>by
    obtain⟨_,⟨e,e2⟩|⟨g',cap',cur,e,_,_,hle,_⟩⟩:=h
    ·omega
    ·simp at e
     obtain⟨rfl,rfl⟩:=e
     simp[Value.ownBlock] at hg
     subst hg;exact⟨_,_,rfl,by omega⟩
   refine⟨rfl, .inl ?_,c.mono (fun g _ hg=>hb g hg)⟩
   obtain⟨hl,h1|⟨g,cap',cur,e,hg,hh,hn',hcap,hsz,ht⟩⟩:=o
   ·exact⟨hl, .inl h1⟩
   ·exact⟨hl, .inr ⟨g,cap',cur,e,(h.lt g (by rw[e];rfl)).1,hh,hn',hcap,hsz,ht⟩⟩
  ·have hl:l=[]:=List.length_eq_zero_iff.1 (by omega)
   subst hl;refine(GK a cap k w).mono ?_
   rintro e w' ⟨rfl,rfl⟩
   exact⟨by simp, .inl h,Chg.refl _ _⟩
 ·have hl:l=[]:=List.length_eq_zero_iff.1 h0
  subst hl;refine(GK _ 0 k w).mono ?_
  rintro e w' ⟨rfl,rfl⟩
  exact⟨by simp, .inr ⟨rfl,rfl,g,rfl⟩,Chg.refl _ _⟩

def Da (b:Bool) (T:Tr):Tr:=⟨b,T.pairs,T.cuts,T.kids,T.buf⟩
def Ca:Nat->Int->Tr->Tr
 |0,_,T=>T
 | n + 1, k, T => ⟨T.leaf, Bn k T.pairs.length, AS (k + 2 * T.pairs.length) T.cuts.length,
   (List.range T.kids.length).map (fun i=>Da ((k+2*T.pairs.length+T.cuts.length+(CX n T.kids i:Nat))%3==0) (Ca n (k+2*T.pairs.length+T.cuts.length+(CX n T.kids i:Nat)+1) (T.kids.getD i AR))),
   Bl (k+2*T.pairs.length+T.cuts.length+(B6 n T.kids:Nat)) T.buf.length⟩
def Cn (n:Nat) (k:Int) (ts:List Tr):List Tr:=(List.range ts.length).map (fun i=>Da ((k+(CX n ts i:Nat))%3==0) (Ca n (k+(CX n ts i:Nat)+1) (ts.getD i AR)))
theorem DF (n:Nat) (k:Int) (ts:List Tr):(Cn n k ts).length=ts.length:=by simp[Cn]
theorem Jl (n:Nat) (k:Int) (ts:List Tr) (i:Nat) (h:i<ts.length):(Cn n k ts).getD i AR=Da ((k+(CX n ts i:Nat))%3==0) (Ca n (k+(CX n ts i:Nat)+1) (ts.getD i AR)):=by simp[Cn,List.getD,h]
theorem Fo (n:Nat) (k:Int) (T:Tr):Ca (n+1) k T=⟨T.leaf,Bn k T.pairs.length,AS (k+2*T.pairs.length) T.cuts.length,Cn n (k+2*T.pairs.length+T.cuts.length) T.kids,Bl (k+2*T.pairs.length+T.cuts.length+(B6 n T.kids:Nat)) T.buf.length⟩:=rfl

def Kp (n:Nat):Prop:=∀(v:Value) (ts:List Tr) (k:Int) (w:World),BR n w v (Cn n k ts)->0<=k->k+(B6 n ts:Nat)<=67108864→
 Calls Tryz.prog 93 #[v, .int .i64 k] w fun e w' =>e= .returned (.int .i64 (k+(B6 n ts:Nat)))/\w' =w

theorem CD (n:Nat) (T:Tr):mkT (n+1) T=2*T.pairs.length+T.cuts.length+B6 n T.kids+3*T.buf.length:=rfl

theorem JQ (n:Nat) (H:∀n',n=n' +1->Kp n'):Kp n:=by
 intro v ts k w hw hk0 hk1;obtain⟨xs,hxl,hrow,hkid⟩:=hw
 rw[DF] at hxl
 obtain⟨a,b,off,cap,rfl,hcap,hmax,ha,hx0,hx1,hx2,hx3,hx4⟩:=hrow.trees
 have HK:Hid (∀i,i<xs.length->Bb n w (Ak xs i) (Da ((k+(CX n ts i:Nat))%3==0) (Ca n (k+(CX n ts i:Nat)+1) (ts.getD i AR)))):=fun i hi=>by
  have:=hkid i hi
  rw[Jl n k ts i (by omega)] at this
  exact this
 have MS:Hid (∀i,i<xs.length->CX n ts (i+1)=CX n ts i+(1+mkT n (ts.getD i AR))):=fun i hi=>Jo n ts i (by omega)
 have ML:Hid (∀i,i<=xs.length->CX n ts i<=B6 n ts):=fun i hi=>Oo n ts i (by omega)
 have MF:Hid (CX n ts xs.length=B6 n ts):=by
  show _=_
  rw[hxl,JF]
 have M0:Hid (CX n ts 0=0):=by
  show _=_
  simp[CX]
 unfold maxLen at hmax;clear hkid hxl hrow;generalize B6 n ts=TOT at *
 generalize CX n ts=fo at *
 have XC:Hid ((0<xs.length->a=some ⟨b,off,none⟩)/\∀i,i<xs.length->w.cell? ⟨b,off+i*5,none⟩=some (.bool (Ak xs i).lf)/\w.cell? ⟨b,off+i*5+1,none⟩=some (Ak xs i).p/\w.cell? ⟨b,off+i*5+2,none⟩=some (Ak xs i).c/\w.cell? ⟨b,off+i*5+3,none⟩=some (Ak xs i).k/\w.cell? ⟨b,off+i*5+4,none⟩=some (Ak xs i).b):=⟨ha,fun i hi=>⟨hx0 i hi,hx1 i hi,hx2 i hi,hx3 i hi,hx4 i hi⟩⟩
 clear ha hx0 hx1 hx2 hx3 hx4;generalize hm:xs.length=m at *
 go_enter Tryz.func93,Tryz.ntmps93
 go_wp2;go_loopw [1,5] (fun kk i wr=>∃j:Nat,j<=m/\i= .int .i64 j/\kk= .int .i64 (k+(fo j:Nat))/\wr=w) (fun _ i _=>m-(intOf i).toNat)
 case atStart=>exact⟨0,Nat.zero_le _,rfl,by rw[M0.out];simp,rfl⟩
 case round=>
  obtain⟨j,hj,rfl,rfl,rfl⟩:=hrel
  by_cases hlt:j<m
  ·have hal:=XC.out.1 (by omega)
   subst hal;have WT:=HK.out j hlt
   have hms:=MS.out j hlt
   have hml:=ML.out (j+1) (by omega)
   cases n with
   |zero=>exact WT.elim
   |succ n=>
   obtain⟨t1,t2,t3,t4,t5⟩:=WT.parts
   obtain⟨c0,c1,c2,c3,c4⟩:=XC.out.2 j hlt
   rw[CD] at hms
   rw[t1] at c0
   have HH:Hid (Kp n):=H n rfl
   simp only[Da,Fo] at t2 t3 t4 t5 c0
   rw[Be] at t2
   rw[AO] at t3
   rw[Bd] at t4
   have MSE:Hid _:=hms
   generalize Ak xs j=y at *
   obtain⟨yl,yp,yc,yk,yb⟩:=y
   simp only at t2 t3 t4 t5 c1 c2 c3 c4
   have T5:Hid _:=t5
   generalize hn3:B6 n (ts.getD j AR).kids=n3 at *
   have HN3:Hid _:=hn3
   generalize (ts.getD j AR).pairs.length=n1 at *
   generalize (ts.getD j AR).cuts.length=n2 at *
   generalize (ts.getD j AR).buf.length=n4 at *
   have hp0:0<=k+(fo j:Int):=by omega
   have hp1:k+(fo j:Int)+1+2*n1+n2+n3+3*n4<=67108864:=by omega
   have HP:Hid _:=Em yp n1 (k+(fo j:Nat)+1) wr t2 (by omega) (by omega) (by omega)
   have HI:Hid _:=Dz yc n2 (k+(fo j:Nat)+1+2*(n1:Int)) wr t3 (by omega) (by omega) (by omega)
   have HM:Hid _:=DR yb n4 (k+(fo j:Nat)+1+2*(n1:Int)+(n2:Int)+(n3:Nat)) wr t4 (by omega) (by omega) (by omega)
   have HT:Hid (Calls Tryz.prog 93 #[yk, .int .i64 (k+(fo j:Nat)+1+2*(n1:Int)+(n2:Int))] wr fun e w' =>e= .returned (.int .i64 (k+(fo j:Nat)+1+2*(n1:Int)+(n2:Int)+(n3:Nat)))/\w' =wr):=by
    have:=HH.out yk (ts.getD j AR).kids (k+(fo j:Nat)+1+2*(n1:Int)+(n2:Int)) wr T5.out (by omega) (by rw[HN3.out];omega)
    rw[HN3.out] at this
    exact this
   clear hms hml WT t1 t2 t3 t4 t5 hn3 T5 HH H HK XC ML;have hne:(((k+(fo j:Int))%3==0) != ((k+(fo j:Int))%3==0))=false:=by simp
   have q1:¬(k+(fo j:Int)+1+2*(n1:Int)<0):=by omega
   have q2:¬(k+(fo j:Int)+1+2*(n1:Int)+(n2:Int)<0):=by omega
   have q3:¬(k+(fo j:Int)+1+2*(n1:Int)+(n2:Int)+(n3:Int)<0):=by omega
   have q4:¬(k+(fo j:Int)+1+2*(n1:Int)+(n2:Int)+(n3:Int)+3*(n4:Int)<0):=by omega
   go_wp2_with fail;refine Calls.mono HP.out ?_
   rintro e w1 ⟨rfl,hw1⟩
   subst hw1;go_wp2_with fail;refine Calls.mono HI.out ?_
   rintro e w1 ⟨rfl,hw1⟩
   subst hw1;go_wp2_with fail;refine Calls.mono HT.out ?_
   rintro e w1 ⟨rfl,hw1⟩
   subst hw1;go_wp2_with fail;refine Calls.mono HM.out ?_
   rintro e w1 ⟨rfl,hw1⟩
   subst hw1;go_wp2;go_roundw
   case rel=>exact⟨j+1,by omega,by go_num,by rw[MSE.out];congr 1;omega,by trivial⟩
   case measure=>simp[intOf];omega
  ·have hjl:j=m:=by omega
   subst hjl;have E:Hid (fo j=TOT):=MF
   go_wp2;go_ret;exact⟨An (by rw[E.out]),rfl⟩

theorem Fa:∀n,Kp n
 |0=>JQ 0 (fun _ h=>by cases h)
 |n+1=>JQ (n+1) (fun n' h=>by cases h;exact Fa n)
end
end Go.Proofs.YtkcaelfkcepdkaaGreat
