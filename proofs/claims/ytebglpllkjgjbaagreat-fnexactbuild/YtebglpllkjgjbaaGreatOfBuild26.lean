/-
  Strong contracts of the laws' marks: numbers; lists that are empty; trees whose kids are zero.
  What becomes of a tree in memory of its own when one of its rows is appended to, or written.
  The laws' own function that writes marks into a tree: it ends, counts the marks, and writes within given bounds alone.
  Marks of whole trees: the marked tree as plain data; heldTree at it.
-/
import Derived.Test.YtebglpllkjgjbaaGreatOfBuild25
import Derived.Test.YtebglpllkjgjbaaGreatOfBuild2
import Derived.Test.YtebglpllkjgjbaaGreatOfBuild18
import Derived.Test.YtebglpllkjgjbaaGreatOfBuild5
import Derived.Test.YtebglpllkjgjbaaGreatOfBuild17
import Derived.Deep.DeepCutAuto
import Derived.Deep.CutBlock
namespace Go.Proofs.YtebglpllkjgjbaaGreat
set_option maxRecDepth 100000
set_option maxHeartbeats 8000000
section
open Go.RowKit

def Dj (k:Int) (n:Nat):List Int:=(List.range n).map fun (i:Nat)=>k+i
theorem Ck (k:Int) (n:Nat):(Dj k n).length=n:=by simp[Dj]
theorem Qs (k:Int) (n:Nat):Dj k (n+1)=Dj k n++[k+n]:=by simp[Dj,List.range_succ]
theorem VA (k:Int) (n i:Nat) (h:i<n):iAt (Dj k n) i=k+i:=by simp[Dj,iAt,List.getD,h]
def Jp (k:Int) (l:List Int) (i:Nat):List Int:=Dj k i++l.drop i
theorem QI (k:Int) (l:List Int) (i:Nat) (h:i<=l.length):(Jp k l i).length=l.length:=by simp[Jp,Ck];omega
theorem Vq (k:Int) (l:List Int):Jp k l 0=l:=by simp[Jp,Dj]
theorem Uk (k:Int) (l:List Int):Jp k l l.length=Dj k l.length:=by simp[Jp]
theorem Us (k:Int) (l:List Int) (i:Nat) (h:i<l.length):(Jp k l i).set i (k+i)=Jp k l (i+1):=by
 rw[Jp,Jp,Qs,List.drop_eq_getElem_cons h,List.set_append_right _ _ (by rw[Ck];omega),Ck,Nat.sub_self,List.set_cons_zero]
 simp
theorem Sb (l:List Int) (s:Int) (i:Nat):(Ac l).set i (.int .i64 s)=Ac (l.set i s):=by simp[Ac,List.map_set]
theorem VN (l:List Int) (i:Nat) (h:i<l.length):(Ac l)[i]? =some (.int .i64 (iAt l i)):=by simp[Ac,iAt,List.getD,h]

theorem RZ (v:Value) (l:List Int) (k:Int) (w:World) (h:w.ownsRow 0 3 1 v l.length (Ac l)) (hn:l.length<=4194304) (hk0:0<=k) (hk1:k<=4194304) :
  Calls Tryz.prog 28 #[v, .int .i64 k] w fun e w' =>e= .returned (.int .i64 (k+l.length))/\w'.ownsRow 0 3 1 v l.length (Ac (Dj k l.length))/\Chg (fun g=>v.ownBlock=some g) w w' :=by
 obtain⟨a,cap,hv⟩:=A8 h
 have hcap:cap<=maxLen:=by
  obtain⟨_,⟨e,_⟩|⟨g,cap',cur,e,_,_,_,hc,_⟩⟩:=h
  ·rw[hv] at e;simp at e;rw[e.2.2];exact Nat.zero_le _
  ·rw[hv] at e;simp at e;rw[e.2];exact hc
 unfold maxLen at hcap;have OW:Hid (w.ownsRow 0 3 1 v l.length (Ac l)):=h
 clear h;rw[hv] at OW ⊢
 clear hv;go_enter Tryz.func28,Tryz.ntmps28
 go_wp2;go_loopw [1,5] (fun kk i wr=>∃j:Nat,j<=l.length/\i= .int .i64 j/\kk= .int .i64 (k+j)/\wr.ownsRow 0 3 1 (.slice a l.length cap) l.length (Ac (Jp k l j))/\Chg (fun g=>(Value.slice a l.length cap).ownBlock=some g) w wr)
  (fun _ i _=>l.length-(intOf i).toNat)
 case atStart=>exact⟨0,Nat.zero_le _,rfl,by simp,by rw[Vq];exact OW.out,Chg.refl _ _⟩
 case round=>
  obtain⟨j,hj,rfl,rfl,hown,hch⟩:=hrel
  by_cases hlt:j<l.length
  ·have hex:∃g,a=some ⟨g,0,none⟩:=by
    obtain⟨_,⟨e,e2⟩|⟨g,cap',cur,e,_⟩⟩:=hown
    ·omega
    ·simp at e;exact⟨g,e.1⟩
   obtain⟨g,rfl⟩:=hex
   have hml:(Jp k l j).length=l.length:=QI k l j hj
   have hat:=VN (Jp k l j) j (by omega)
   have e0:=(hown.cellAt j (by omega)).trans hat
   have f0:=hown.frozenAt j
   have st:=(hown.stored j (.int .i64 (k+j))).1
   rw[Sb,Us k l j hlt] at st
   have hch2:Chg (fun g' =>(Value.slice (some ⟨g,0,none⟩) l.length cap).ownBlock=some g') w (wr.setCell ⟨g,j,none⟩ (.int .i64 (k+j))):=hch.setAt g _ rfl _
   generalize iAt (Jp k l j) j=x0 at *
   have ST:Hid _:=And.intro st hch2
   clear st hch2 hown hch hml hat OW;have hb0:0<=k+(j:Int):=by omega
   have hb1:k+(j:Int)<=100000000:=by omega
   go_wp2;go_roundw
   case rel=>exact⟨j+1,by omega,by go_num,by go_num,ST.out.1,ST.out.2⟩
   case measure=>simp[intOf];omega
  ·have hjl:j=l.length:=by omega
   subst hjl;go_wp2;go_ret;rw[Uk] at hown
   exact⟨rfl,hown,hch⟩

theorem Mz (v:Value) (n:Nat) (k:Int) (w:World) (h:Row w v n (Ac (Dj k n))) (hn:n<=4194304) (hk0:0<=k) (hk1:k<=4194304) :
  Calls Tryz.prog 32 #[v, .int .i64 k] w fun e w' =>e= .returned (.int .i64 (k+n))/\w' =w:=by
 have h' :Row w v (Dj k n).length (Ac (Dj k n)):=by rw[Ck];exact h
 obtain⟨a,b,off,cap,rfl,hcap,hmax,ha,hk⟩:=h'.ints
 rw[Ck] at *
 unfold maxLen at hmax;clear h h';go_enter Tryz.func32,Tryz.ntmps32
 go_wp2;go_loop [1,5] (fun kk i=>∃j:Nat,j<=n/\i= .int .i64 j/\kk= .int .i64 (k+j)) (fun _ i=>n-(intOf i).toNat)
 case atStart=>exact⟨0,Nat.zero_le _,rfl,by simp⟩
 case round=>
  obtain⟨j,hj,rfl,rfl⟩:=hrel
  by_cases hlt:j<n
  ·have hal:=ha (by omega)
   subst hal;have d0:w.cell? ⟨b,off+j,none⟩=some (.int .i64 (k+j)):=by rw[hk j hlt,VA k n j hlt]
   clear hk;have hb0:0<=k+(j:Int):=by omega
   have hb1:k+(j:Int)<=100000000:=by omega
   go_wp2;go_round
   case rel=>exact⟨j+1,by omega,by go_num,by go_num⟩
   case measure=>simp[intOf];omega
  ·have hjl:j=n:=by omega
   subst hjl;go_wp2;go_ret;exact⟨rfl,rfl⟩

theorem IQ (a:Option Addr) (q:Nat) (k:Int) (w:World):Calls Tryz.prog 10 #[.slice a 0 q, .int .i64 k] w fun e w' =>e= .returned (.int .i64 k)/\w' =w:=by
 go_enter Tryz.func10,Tryz.ntmps10
 go_wp2;go_loop [1,5] (fun kk i=>kk= .int .i64 k/\i= .int .i64 0) (fun _ _=>0)
 case atStart=>exact⟨rfl,rfl⟩
 case round=>
  obtain⟨rfl,rfl⟩:=hrel
  go_wp2;go_ret;exact⟨rfl,rfl⟩
theorem Jz (a:Option Addr) (q:Nat) (k:Int) (w:World):Calls Tryz.prog 28 #[.slice a 0 q, .int .i64 k] w fun e w' =>e= .returned (.int .i64 k)/\w' =w:=by
 go_enter Tryz.func28,Tryz.ntmps28
 go_wp2;go_loop [1,5] (fun kk i=>kk= .int .i64 k/\i= .int .i64 0) (fun _ _=>0)
 case atStart=>exact⟨rfl,rfl⟩
 case round=>
  obtain⟨rfl,rfl⟩:=hrel
  go_wp2;go_ret;exact⟨rfl,rfl⟩
theorem JA (a:Option Addr) (q:Nat) (k:Int) (w:World):Calls Tryz.prog 30 #[.slice a 0 q, .int .i64 k] w fun e w' =>e= .returned (.int .i64 k)/\w' =w:=by
 go_enter Tryz.func30,Tryz.ntmps30
 go_wp2;go_loop [1,5] (fun kk i=>kk= .int .i64 k/\i= .int .i64 0) (fun _ _=>0)
 case atStart=>exact⟨rfl,rfl⟩
 case round=>
  obtain⟨rfl,rfl⟩:=hrel
  go_wp2;go_ret;exact⟨rfl,rfl⟩
end
section
open Go.RowKit

theorem Ak.block {w:World} {base e size n:Nat} {v:Value} {xs:List Value} (h:Ak w base e size v n xs):∀g,wrB v g->∃cur,w.heap[g]? =some (.cells cur e (0,0)):=by
 rintro g ⟨k,cap,rfl,hc⟩
 rcases h with h|⟨_,_,g',hg⟩
 ·obtain⟨_,⟨h1,_⟩|⟨g',cap',cur,h1,hg,hh,_⟩⟩:=h
  ·simp at h1
  ·simp at h1
   rw[←h1.1] at hh
   exact⟨cur,hh⟩
 ·simp at hg
  omega
theorem Ak.apart {w:World} {b1 b2 e1 e2 s1 s2 n1 n2:Nat} {v1 v2:Value} {x1 x2:List Value} (h1:Ak w b1 e1 s1 v1 n1 x1) (h2:Ak w b2 e2 s2 v2 n2 x2) (he:e1≠e2):∀g,wrB v1 g->¬wrB v2 g:=by
 intro g k1 k2;obtain⟨c1,j1⟩:=h1.block g k1
 obtain⟨c2,j2⟩:=h2.block g k2
 rw[j1] at j2
 simp at j2
 exact he j2.2
theorem Ak.pos {w:World} {base e size n:Nat} {v:Value} {xs:List Value} (h:Ak w base e size v n xs) (hn:0<n):∃g cap,v= .slice (some ⟨g,0,none⟩) n cap/\0<cap/\n<=cap:=by
 rcases h with h|⟨h,_⟩
 ·obtain⟨g,cap,h1,h2,h3⟩:=h.form hn
  refine⟨g,cap,h1, ?_, ?_⟩
  ·obtain⟨_,⟨k1,_⟩|⟨g',cap',cur,k1,_,_,k4,_⟩⟩:=h
   ·rw[h1] at k1;simp at k1
   ·rw[h1] at k1;simp at k1;omega
  ·obtain⟨_,⟨k1,_⟩|⟨g',cap',cur,k1,_,_,k4,_⟩⟩:=h
   ·rw[h1] at k1;simp at k1
   ·rw[h1] at k1;simp at k1;omega
 ·omega

variable {n:Nat} {w w' :World} {F:Nat->Prop} {lf:Bool} {p c k b:Value} {T:Tr}
end
section
open Go.RowKit

def YM (t j:Nat) (v v' :Value):Prop:=v' =v∨(t≠29/\(∃x,v= .int .i64 x)/\∃x,v' = .int .i64 x)∨(t=29/\j%5=0/\(∃b,v= .bool b)/\∃b,v' = .bool b)
structure Mk (lo hi:Nat) (w w' :World):Prop where
 chg:Chg (fun g=>lo<=g/\g<hi) w w'
 like:∀g A t,lo<=g->g<hi->w.heap[g]? =some (.cells A t (0,0))->∃A' :Array Value,w'.heap[g]? =some (.cells A' t (0,0))/\∀j v,A[j]? =some v->∃v',A'[j]? =some v' ∧YM t j v v'
def Blk (w:World) (g t m:Nat):Prop:=∃A:Array Value,w.heap[g]? =some (.cells A t (0,0))/\∀j,j<m->∃x,A[j]? =some (.int .i64 x)
def Su (w:World) (lo hi:Nat) (v:Value) (n size:Nat):Prop:=
 ∃(a:Option Addr) (g cap t:Nat),v= .slice a n cap/\n<=cap/\cap<=maxLen/\(0<n->a=some ⟨g,0,none⟩/\lo<=g/\g<hi/\t≠29/\Blk w g t (n*size))
def YX (w:World) (g:Nat) (xs:List TV):Prop:=∃A:Array Value,w.heap[g]? =some (.cells A 29 (0,0))/\∀i,i<xs.length->(∃b,A[i*5]? =some (.bool b))/\A[i*5+1]? =some (Al xs i).p/\A[i*5+2]? =some (Al xs i).c/\A[i*5+3]? =some (Al xs i).k/\A[i*5+4]? =some (Al xs i).b
def T8 (w:World) (lo hi:Nat) (v:Value) (xs:List TV):Prop:=
 ∃(a:Option Addr) (g cap:Nat),v= .slice a xs.length cap/\xs.length<=cap/\cap<=maxLen/\(0<xs.length->a=some ⟨g,0,none⟩/\lo<=g/\g<hi/\YX w g xs)
def Wz:Nat->World->Nat->Nat->TV->Tr->Prop
 |0,_,_,_,_,_=>False
 | n + 1, w, lo, hi, x, T => Su w lo hi x.p T.pairs.length 2 ∧ Su w lo hi x.c T.cuts.length 1 ∧ Su w lo hi x.b T.buf.length 3 ∧
   ∃xs:List TV,xs.length=T.kids.length/\T8 w lo hi x.k xs/\∀i,i<xs.length->Wz n w lo hi (Al xs i) (T.kids.getD i Aj)
def Xq (n:Nat) (w:World) (lo hi:Nat) (v:Value) (ts:List Tr):Prop:=
 ∃xs:List TV,xs.length=ts.length/\T8 w lo hi v xs/\∀i,i<xs.length->Wz n w lo hi (Al xs i) (ts.getD i Aj)
def mkT:Nat->Tr->Nat
 |0,_=>0
 |n+1,T=>2*T.pairs.length+T.cuts.length+(T.kids.length+(T.kids.map (mkT n)).sum)+3*T.buf.length
def Et (n:Nat) (ts:List Tr) (i:Nat):Nat:=i+((ts.take i).map (mkT n)).sum
def Fx (n:Nat) (ts:List Tr):Nat:=ts.length+(ts.map (mkT n)).sum
theorem Oe (n:Nat) (ts:List Tr) (i:Nat) (h:i<ts.length):Et n ts (i+1)=Et n ts i+(1+mkT n (ts.getD i Aj)):=by
 rw[Et,Et,List.take_succ_eq_append_getElem h,List.map_append,List.sum_append]
 simp[List.getD,h]
 omega
theorem Od (n:Nat) (ts:List Tr):Et n ts ts.length=Fx n ts:=by simp[Et,Fx]
theorem Tq (n:Nat) (ts:List Tr) (i:Nat) (hi:i<=ts.length):Et n ts i<=Fx n ts:=by
 have h:(ts.map (mkT n)).sum=((ts.take i).map (mkT n)).sum+((ts.drop i).map (mkT n)).sum:=by
  rw[←List.sum_append, ← List.map_append,List.take_append_drop]
 rw[Et,Fx,h]
 omega
theorem Sw:∀(n:Nat) (T:Tr),mkT n T<=3*AQ n T
 |0,_=>Nat.zero_le _
 |n+1,T=>by
  have:∀ts:List Tr,(ts.map (mkT n)).sum<=3*(ts.map (AQ n)).sum:=fun ts=>by
   induction ts with
   |nil=>simp
   |cons t ts ih=>
    have:=Sw n t
    simp only[List.map_cons,List.sum_cons]
    omega
  have:=this T.kids
  rw[mkT,AQ]
  omega

def Y3 (n:Nat):Prop:=∀(v:Value) (ts:List Tr) (k:Int) (w:World) (lo hi:Nat),Xq n w lo hi v ts->0<=k->k+(Fx n ts:Nat)<=1099511627776→
 Calls Tryz.prog 29 #[v, .int .i64 k] w fun e w' =>e= .returned (.int .i64 (k+(Fx n ts:Nat)))/\Mk lo hi w w'
end
section
open Go.RowKit

theorem MC (base:Nat) (v:Value) (l:ML) (k:Int) (w:World) (h:Ak w base 44 3 v l.length (Ag l)) (hn:l.length<=4194304) (hk0:0<=k) (hk1:k<=4194304) :
  Calls Tryz.prog 30 #[v, .int .i64 k] w fun e w' =>e= .returned (.int .i64 (k+3*l.length))/\Ak w' base 44 3 v l.length (Ag (CQ k l.length))/\Chg (fun g=>wrB v g) w w' :=by
 rcases h with h|⟨h0,h1,g,rfl⟩
 ·obtain⟨a,cap,hv⟩:=A8 h
  subst hv;by_cases hc:0<l.length
  ·refine(Po _ l k w (AM h (Nat.zero_le _)) (by omega) hk0 (by omega)).mono ?_
   rintro e w' ⟨rfl,o,c⟩
   have hb:∀g,(Value.slice a l.length cap).ownBlock=some g->wrB (.slice a l.length cap) g:=fun g hg=>by
    obtain⟨_,⟨e,e2⟩|⟨g',cap',cur,e,_,_,hle,_⟩⟩:=h
    ·omega
    ·simp at e
     obtain⟨rfl,rfl⟩:=e
     simp[Value.ownBlock] at hg
     subst hg;exact⟨_,_,rfl,by omega⟩
   refine⟨rfl, .inl ?_,c.mono (fun g _ hg=>hb g hg)⟩
   obtain⟨hl,h1|⟨g,cap',cur,e,hg,hh,hn',hcap,hsz,ht⟩⟩:=o
   ·exact⟨hl, .inl h1⟩
   ·exact⟨hl, .inr ⟨g,cap',cur,e,(h.lt g (by rw[e];rfl)).1,hh,hn',hcap,hsz,ht⟩⟩
  ·have hl:l=[]:=List.length_eq_zero_iff.1 (by omega)
   subst hl;refine(JA a cap k w).mono ?_
   rintro e w' ⟨rfl,rfl⟩
   exact⟨by simp, .inl h,Chg.refl _ _⟩
 ·have hl:l=[]:=List.length_eq_zero_iff.1 h0
  subst hl;refine(JA _ 0 k w).mono ?_
  rintro e w' ⟨rfl,rfl⟩
  exact⟨by simp, .inr ⟨rfl,rfl,g,rfl⟩,Chg.refl _ _⟩
theorem Ie (base:Nat) (v:Value) (l:List (Int × Int)) (k:Int) (w:World) (h:Ak w base 42 2 v l.length (Af l)) (hn:l.length<=4194304) (hk0:0<=k) (hk1:k<=4194304) :
  Calls Tryz.prog 10 #[v, .int .i64 k] w fun e w' =>e= .returned (.int .i64 (k+2*l.length))/\Ak w' base 42 2 v l.length (Af (C9 k l.length))/\Chg (fun g=>wrB v g) w w' :=by
 rcases h with h|⟨h0,h1,g,rfl⟩
 ·obtain⟨a,cap,hv⟩:=A8 h
  subst hv;by_cases hc:0<l.length
  ·refine(Nq _ l k w (AM h (Nat.zero_le _)) (by omega) hk0 (by omega)).mono ?_
   rintro e w' ⟨rfl,o,c⟩
   have hb:∀g,(Value.slice a l.length cap).ownBlock=some g->wrB (.slice a l.length cap) g:=fun g hg=>by
    obtain⟨_,⟨e,e2⟩|⟨g',cap',cur,e,_,_,hle,_⟩⟩:=h
    ·omega
    ·simp at e
     obtain⟨rfl,rfl⟩:=e
     simp[Value.ownBlock] at hg
     subst hg;exact⟨_,_,rfl,by omega⟩
   refine⟨rfl, .inl ?_,c.mono (fun g _ hg=>hb g hg)⟩
   obtain⟨hl,h1|⟨g,cap',cur,e,hg,hh,hn',hcap,hsz,ht⟩⟩:=o
   ·exact⟨hl, .inl h1⟩
   ·exact⟨hl, .inr ⟨g,cap',cur,e,(h.lt g (by rw[e];rfl)).1,hh,hn',hcap,hsz,ht⟩⟩
  ·have hl:l=[]:=List.length_eq_zero_iff.1 (by omega)
   subst hl;refine(IQ a cap k w).mono ?_
   rintro e w' ⟨rfl,rfl⟩
   exact⟨by simp, .inl h,Chg.refl _ _⟩
 ·have hl:l=[]:=List.length_eq_zero_iff.1 h0
  subst hl;refine(IQ _ 0 k w).mono ?_
  rintro e w' ⟨rfl,rfl⟩
  exact⟨by simp, .inr ⟨rfl,rfl,g,rfl⟩,Chg.refl _ _⟩
theorem MD (base:Nat) (v:Value) (l:List Int) (k:Int) (w:World) (h:Ak w base 3 1 v l.length (Ac l)) (hn:l.length<=4194304) (hk0:0<=k) (hk1:k<=4194304) :
  Calls Tryz.prog 28 #[v, .int .i64 k] w fun e w' =>e= .returned (.int .i64 (k+l.length))/\Ak w' base 3 1 v l.length (Ac (Dj k l.length))/\Chg (fun g=>wrB v g) w w' :=by
 rcases h with h|⟨h0,h1,g,rfl⟩
 ·obtain⟨a,cap,hv⟩:=A8 h
  subst hv;by_cases hc:0<l.length
  ·refine(RZ _ l k w (AM h (Nat.zero_le _)) (by omega) hk0 (by omega)).mono ?_
   rintro e w' ⟨rfl,o,c⟩
   have hb:∀g,(Value.slice a l.length cap).ownBlock=some g->wrB (.slice a l.length cap) g:=fun g hg=>by
    obtain⟨_,⟨e,e2⟩|⟨g',cap',cur,e,_,_,hle,_⟩⟩:=h
    ·omega
    ·simp at e
     obtain⟨rfl,rfl⟩:=e
     simp[Value.ownBlock] at hg
     subst hg;exact⟨_,_,rfl,by omega⟩
   refine⟨rfl, .inl ?_,c.mono (fun g _ hg=>hb g hg)⟩
   obtain⟨hl,h1|⟨g,cap',cur,e,hg,hh,hn',hcap,hsz,ht⟩⟩:=o
   ·exact⟨hl, .inl h1⟩
   ·exact⟨hl, .inr ⟨g,cap',cur,e,(h.lt g (by rw[e];rfl)).1,hh,hn',hcap,hsz,ht⟩⟩
  ·have hl:l=[]:=List.length_eq_zero_iff.1 (by omega)
   subst hl;refine(Jz a cap k w).mono ?_
   rintro e w' ⟨rfl,rfl⟩
   exact⟨by simp, .inl h,Chg.refl _ _⟩
 ·have hl:l=[]:=List.length_eq_zero_iff.1 h0
  subst hl;refine(Jz _ 0 k w).mono ?_
  rintro e w' ⟨rfl,rfl⟩
  exact⟨by simp, .inr ⟨rfl,rfl,g,rfl⟩,Chg.refl _ _⟩

def Gm (b:Bool) (T:Tr):Tr:=⟨b,T.pairs,T.cuts,T.kids,T.buf⟩
def Fo:Nat->Int->Tr->Tr
 |0,_,T=>T
 | n + 1, k, T => ⟨T.leaf, C9 k T.pairs.length, Dj (k + 2 * T.pairs.length) T.cuts.length,
   (List.range T.kids.length).map (fun i=>Gm ((k+2*T.pairs.length+T.cuts.length+(Et n T.kids i:Nat))%3==0) (Fo n (k+2*T.pairs.length+T.cuts.length+(Et n T.kids i:Nat)+1) (T.kids.getD i Aj))),
   CQ (k+2*T.pairs.length+T.cuts.length+(Fx n T.kids:Nat)) T.buf.length⟩
def Ex (n:Nat) (k:Int) (ts:List Tr):List Tr:=(List.range ts.length).map (fun i=>Gm ((k+(Et n ts i:Nat))%3==0) (Fo n (k+(Et n ts i:Nat)+1) (ts.getD i Aj)))
theorem GH (n:Nat) (k:Int) (ts:List Tr):(Ex n k ts).length=ts.length:=by simp[Ex]
theorem Nt (n:Nat) (k:Int) (ts:List Tr) (i:Nat) (h:i<ts.length):(Ex n k ts).getD i Aj=Gm ((k+(Et n ts i:Nat))%3==0) (Fo n (k+(Et n ts i:Nat)+1) (ts.getD i Aj)):=by simp[Ex,List.getD,h]
theorem Gx (n:Nat) (k:Int) (T:Tr):Fo (n+1) k T=⟨T.leaf,C9 k T.pairs.length,Dj (k+2*T.pairs.length) T.cuts.length,Ex n (k+2*T.pairs.length+T.cuts.length) T.kids,CQ (k+2*T.pairs.length+T.cuts.length+(Fx n T.kids:Nat)) T.buf.length⟩:=rfl

def OD (n:Nat):Prop:=∀(v:Value) (ts:List Tr) (k:Int) (w:World),Ev n w v (Ex n k ts)->0<=k->k+(Fx n ts:Nat)<=4194304→
 Calls Tryz.prog 33 #[v, .int .i64 k] w fun e w' =>e= .returned (.int .i64 (k+(Fx n ts:Nat)))/\w' =w

theorem Ih (n:Nat) (T:Tr):mkT (n+1) T=2*T.pairs.length+T.cuts.length+Fx n T.kids+3*T.buf.length:=rfl

theorem Nx (n:Nat) (H:∀n',n=n' +1->OD n'):OD n:=by
 intro v ts k w hw hk0 hk1;obtain⟨xs,hxl,hrow,hkid⟩:=hw
 rw[GH] at hxl
 obtain⟨a,b,off,cap,rfl,hcap,hmax,ha,hx0,hx1,hx2,hx3,hx4⟩:=hrow.trees
 have HK:Hid (∀i,i<xs.length->AH n w (Al xs i) (Gm ((k+(Et n ts i:Nat))%3==0) (Fo n (k+(Et n ts i:Nat)+1) (ts.getD i Aj)))):=fun i hi=>by
  have:=hkid i hi
  rw[Nt n k ts i (by omega)] at this
  exact this
 have MS:Hid (∀i,i<xs.length->Et n ts (i+1)=Et n ts i+(1+mkT n (ts.getD i Aj))):=fun i hi=>Oe n ts i (by omega)
 have ML:Hid (∀i,i<=xs.length->Et n ts i<=Fx n ts):=fun i hi=>Tq n ts i (by omega)
 have MF:Hid (Et n ts xs.length=Fx n ts):=by
  show _=_
  rw[hxl,Od]
 have M0:Hid (Et n ts 0=0):=by
  show _=_
  simp[Et]
 unfold maxLen at hmax;clear hkid hxl hrow;generalize Fx n ts=TOT at *
 generalize Et n ts=fo at *
 have XC:Hid ((0<xs.length->a=some ⟨b,off,none⟩)/\∀i,i<xs.length->w.cell? ⟨b,off+i*5,none⟩=some (.bool (Al xs i).lf)/\w.cell? ⟨b,off+i*5+1,none⟩=some (Al xs i).p/\w.cell? ⟨b,off+i*5+2,none⟩=some (Al xs i).c/\w.cell? ⟨b,off+i*5+3,none⟩=some (Al xs i).k/\w.cell? ⟨b,off+i*5+4,none⟩=some (Al xs i).b):=⟨ha,fun i hi=>⟨hx0 i hi,hx1 i hi,hx2 i hi,hx3 i hi,hx4 i hi⟩⟩
 clear ha hx0 hx1 hx2 hx3 hx4;generalize hm:xs.length=m at *
 go_enter Tryz.func33,Tryz.ntmps33
 go_wp2;go_loopw [1,5] (fun kk i wr=>∃j:Nat,j<=m/\i= .int .i64 j/\kk= .int .i64 (k+(fo j:Nat))/\wr=w) (fun _ i _=>m-(intOf i).toNat)
 case atStart=>exact⟨0,Nat.zero_le _,rfl,by rw[M0.out];simp,rfl⟩
 case round=>
  obtain⟨j,hj,rfl,rfl,rfl⟩:=hrel
  by_cases hlt:j<m
  ·have hal:=XC.out.1 (by omega)
   subst hal;have WT:=HK.out j hlt
   have hms:=MS.out j hlt
   have hml:=ML.out (j+1) (by omega)
   cases n with
   |zero=>exact WT.elim
   |succ n=>
   obtain⟨t1,t2,t3,t4,t5⟩:=WT.parts
   obtain⟨c0,c1,c2,c3,c4⟩:=XC.out.2 j hlt
   rw[Ih] at hms
   rw[t1] at c0
   have HH:Hid (OD n):=H n rfl
   simp only[Gm,Gx] at t2 t3 t4 t5 c0
   rw[Cm] at t2
   rw[Ck] at t3
   rw[Co] at t4
   have MSE:Hid _:=hms
   generalize Al xs j=y at *
   obtain⟨yl,yp,yc,yk,yb⟩:=y
   simp only at t2 t3 t4 t5 c1 c2 c3 c4
   have T5:Hid _:=t5
   generalize hn3:Fx n (ts.getD j Aj).kids=n3 at *
   have HN3:Hid _:=hn3
   generalize (ts.getD j Aj).pairs.length=n1 at *
   generalize (ts.getD j Aj).cuts.length=n2 at *
   generalize (ts.getD j Aj).buf.length=n4 at *
   have hp0:0<=k+(fo j:Int):=by omega
   have hp1:k+(fo j:Int)+1+2*n1+n2+n3+3*n4<=4194304:=by omega
   have HP:Hid _:=Iz yp n1 (k+(fo j:Nat)+1) wr t2 (by omega) (by omega) (by omega)
   have HI:Hid _:=Mz yc n2 (k+(fo j:Nat)+1+2*(n1:Int)) wr t3 (by omega) (by omega) (by omega)
   have HM:Hid _:=JE yb n4 (k+(fo j:Nat)+1+2*(n1:Int)+(n2:Int)+(n3:Nat)) wr t4 (by omega) (by omega) (by omega)
   have HT:Hid (Calls Tryz.prog 33 #[yk, .int .i64 (k+(fo j:Nat)+1+2*(n1:Int)+(n2:Int))] wr fun e w' =>e= .returned (.int .i64 (k+(fo j:Nat)+1+2*(n1:Int)+(n2:Int)+(n3:Nat)))/\w' =wr):=by
    have:=HH.out yk (ts.getD j Aj).kids (k+(fo j:Nat)+1+2*(n1:Int)+(n2:Int)) wr T5.out (by omega) (by rw[HN3.out];omega)
    rw[HN3.out] at this
    exact this
   clear hms hml WT t1 t2 t3 t4 t5 hn3 T5 HH H HK XC ML;have hne:(((k+(fo j:Int))%3==0) != ((k+(fo j:Int))%3==0))=false:=by simp
   have q1:¬(k+(fo j:Int)+1+2*(n1:Int)<0):=by omega
   have q2:¬(k+(fo j:Int)+1+2*(n1:Int)+(n2:Int)<0):=by omega
   have q3:¬(k+(fo j:Int)+1+2*(n1:Int)+(n2:Int)+(n3:Int)<0):=by omega
   have q4:¬(k+(fo j:Int)+1+2*(n1:Int)+(n2:Int)+(n3:Int)+3*(n4:Int)<0):=by omega
   go_wp2_with fail;refine Calls.mono HP.out ?_
   rintro e w1 ⟨rfl,hw1⟩
   subst hw1;go_wp2_with fail;refine Calls.mono HI.out ?_
   rintro e w1 ⟨rfl,hw1⟩
   subst hw1;go_wp2_with fail;refine Calls.mono HT.out ?_
   rintro e w1 ⟨rfl,hw1⟩
   subst hw1;go_wp2_with fail;refine Calls.mono HM.out ?_
   rintro e w1 ⟨rfl,hw1⟩
   subst hw1;go_wp2;go_roundw
   case rel=>exact⟨j+1,by omega,by go_num,by rw[MSE.out];congr 1;omega,by trivial⟩
   case measure=>simp[intOf];omega
  ·have hjl:j=m:=by omega
   subst hjl;have E:Hid (fo j=TOT):=MF
   go_wp2;go_ret;exact⟨Bd (by rw[E.out]),rfl⟩

theorem MZ:∀n,OD n
 |0=>Nx 0 (fun _ h=>by cases h)
 |n+1=>Nx (n+1) (fun n' h=>by cases h;exact MZ n)

theorem Sy (n:Nat) (x:TV) (T:Tr) (k:Int) (w:World) (ht:AH n w x (Fo n k T)) (hk0:0<=k) (hk1:k+(mkT n T:Nat)<=4194304) :
  Calls Tryz.prog 12 #[x.val, .int .i64 k] w fun e w' =>e= .returned (.int .i64 (k+(mkT n T:Nat)))/\Below w.heap.size w w' :=by
 cases n with
 |zero=>exact ht.elim
 |succ n=>
 obtain⟨t1,t2,t3,t4,t5⟩:=ht.parts
 obtain⟨yl,yp,yc,yk,yb⟩:=x
 rw[Ih] at hk1 ⊢
 simp only[Gx] at t2 t3 t4 t5
 rw[Cm] at t2
 rw[Ck] at t3
 rw[Co] at t4
 have BN:Hid (Below w.heap.size w (w.alloc (.cells #[.bool yl,yp,yc,yk,yb] 29))):=Cb _ _
 have t2:=t2.below BN.out
 have t3:=t3.below BN.out
 have t4:=t4.below BN.out
 have t5:=t5.below BN.out
 have k0:∀j,(w.alloc (.cells #[.bool yl,yp,yc,yk,yb] 29)).cell? ⟨w.heap.size,j,none⟩= #[Value.bool yl,yp,yc,yk,yb][j]? :=fun j=>Ae (heap_alloc_new w _)
 generalize hW:w.alloc (.cells #[.bool yl,yp,yc,yk,yb] 29)=W at *
 have EW:Hid (w.alloc (.cells #[.bool yl,yp,yc,yk,yb] 29)=W):=hW
 have HT0:=MZ n yk T.kids (k+2*T.pairs.length+T.cuts.length) W t5 (by omega) (by omega)
 generalize Fx n T.kids=n3 at *
 generalize T.pairs.length=n1 at *
 generalize T.cuts.length=n2 at *
 generalize T.buf.length=n4 at *
 have HP:Hid _:=Iz yp n1 k W t2 (by omega) (by omega) (by omega)
 have HI:Hid _:=Mz yc n2 (k+2*(n1:Int)) W t3 (by omega) (by omega) (by omega)
 have HT:Hid _:=HT0
 have HM:Hid _:=JE yb n4 (k+2*(n1:Int)+(n2:Int)+(n3:Nat)) W t4 (by omega) (by omega) (by omega)
 have q1:¬(k+2*(n1:Int)<0):=by omega
 have q2:¬(k+2*(n1:Int)+(n2:Int)<0):=by omega
 have q3:¬(k+2*(n1:Int)+(n2:Int)+(n3:Int)<0):=by omega
 have q4:¬(k+2*(n1:Int)+(n2:Int)+(n3:Int)+3*(n4:Int)<0):=by omega
 clear ht t1 t2 t3 t4 t5 hW HT0;show Calls Tryz.prog 12 #[.agg #[.bool yl,yp,yc,yk,yb], .int .i64 k] w _
 go_enter Tryz.func12,Tryz.ntmps12
 go_upto_region 1 with fail
 rw[EW.out]
 go_wp2_with fail;refine Calls.mono HP.out ?_
 rintro e w1 ⟨rfl,hw1⟩
 subst hw1;go_wp2_with fail;refine Calls.mono HI.out ?_
 rintro e w1 ⟨rfl,hw1⟩
 subst hw1;go_wp2_with fail;refine Calls.mono HT.out ?_
 rintro e w1 ⟨rfl,hw1⟩
 subst hw1;go_wp2_with fail;refine Calls.mono HM.out ?_
 rintro e w1 ⟨rfl,hw1⟩
 subst hw1;go_wp2;go_ret;refine⟨Bd ?_,BN.out⟩
 omega
end
end Go.Proofs.YtebglpllkjgjbaaGreat
