/-
  Contracts of the program's chapter 2: depthByKids, depth.
  Contracts of the program's chapter 2: TreeDepth, TreeOk, countAll, TreeCount, kidAt, KidOf.
  Contracts of the program's chapter 2: kidAt, KidOf.
  What a message makes of a map, key by key; plain mathematics.
  What chapter 3 says of trees, as plain functions: what is pending of a key, what a key has; plain mathematics.
-/
import Derived.Test.YtnakaabnjelffaaGreatOfInject5
import Derived.Test.YtnakaabnjelffaaGreatOfInject2
namespace Go.Proofs.YtnakaabnjelffaaGreat
set_option maxRecDepth 100000
set_option maxHeartbeats 8000000
section
open Go.RowKit

def MC (m:Nat):Prop:=∀(n:Nat) (x:TV) (T:Tr) (lo hi:Int) (w:World),AO n w x T→
  Calls Tryz.prog 38 #[Dw (Cb T) lo hi (7-(m:Int)) x] w fun e w' =>e= .returned (.int .i64 (AG m T lo hi:Nat))/\Below w.heap.size w w'

theorem MZ {m:Nat} (hm:m<=6) (H:MC m) (n:Nat) (x:TV) (T:Tr) (kd lo hi:Int) (w:World) (ht:AO (n+1) w x T) (hk2:2<=T.kids.length) (hk4:T.kids.length<=4) (hcl:T.cuts.length+1=T.kids.length) :
  Calls Tryz.prog 81 #[Dw kd lo hi (7-((m+1:Nat):Int)) x] w fun e w' =>e= .returned (.int .i64 (Ej (Cu m T lo hi) T.kids.length:Nat))/\Below w.heap.size w w' :=by
 have KD:Hid (∀(i:Nat) (w0:World),i<T.kids.length->Below w.heap.size w w0->Calls Tryz.prog 109 #[Dw kd lo hi (7-((m+1:Nat):Int)) x, .int .i64 i] w0 fun e w' =>∃y:TV,e= .returned (Dw (Cb (AV T i)) (CM T lo i) (toT T hi i) (7-(m:Int)) y)/\AO n w0 y (AV T i)/\Below w0.heap.size w0 w'):=by
  intro i w0 hik hb;have:=XP n x T kd lo hi (7-((m+1:Nat):Int)) i w0 (ht.below hb) hik hcl hk4 (by omega) (by omega)
  rw[show(7-((m+1:Nat):Int))+1=7-(m:Int) by omega] at this
  exact this
 have DP:Hid (∀(i:Nat) (y:TV) (w0:World),AO n w0 y (AV T i)->Calls Tryz.prog 38 #[Dw (Cb (AV T i)) (CM T lo i) (toT T hi i) (7-(m:Int)) y] w0 fun e w' =>e= .returned (.int .i64 (Cu m T lo hi i:Nat))/\Below w0.heap.size w0 w'):=fun i y w0 h=>H n y (AV T i) _ _ w0 h
 obtain⟨a1,a2,a3,a4,q1,q2,q3,q4,rfl⟩:=ht.shape
 have KL:Hid (∀i,Cu m T lo hi i<=7):=fun i=>by have:=G7 m (AV T i) (CM T lo i) (toT T hi i);show AG m (AV T i) (CM T lo i) (toT T hi i)<=7;omega
 have Z0:Hid (∀i,i<T.kids.length->Cu m T lo hi i=0->Ej (Cu m T lo hi) T.kids.length=0):=fun i h1 h2=>Hl h1 h2
 have Z1:Hid (∀i,i<T.kids.length->Cu m T lo hi i≠Cu m T lo hi 0->Ej (Cu m T lo hi) T.kids.length=0):=fun i h1 h2=>G0 h1 h2
 have Y1:Hid (Cu m T lo hi 0≠0->(∀i,i<T.kids.length->Cu m T lo hi i=Cu m T lo hi 0)->Ej (Cu m T lo hi) T.kids.length=Cu m T lo hi 0+1):=Fi
 generalize Ej (Cu m T lo hi) T.kids.length=R at *
 generalize Cu m T lo hi=f at *
 clear ht H;generalize T.pairs.length=n1 at *
 generalize T.cuts.length=n2 at *
 generalize T.kids.length=n3 at *
 generalize T.buf.length=n4 at *
 have ABL:Hid ((7-((m+1:Nat):Int))=(7-((m+1:Nat):Int))):=rfl
 clear ABL;generalize (7-((m+1:Nat):Int))=ab at *
 generalize (7-(m:Int))=ab1 at *
 show Calls Tryz.prog 81 #[.agg #[.int .i64 kd, .int .i64 lo, .int .i64 hi, .int .i64 ab, .bool T.leaf, .slice a1 n1 q1, .slice a2 n2 q2, .slice a3 n3 q3, .slice a4 n4 q4]] w _
 have B0:Hid _:=Cd w (.cells #[.int .i64 kd, .int .i64 lo, .int .i64 hi, .int .i64 ab, .bool T.leaf, .slice a1 n1 q1, .slice a2 n2 q2, .slice a3 n3 q3, .slice a4 n4 q4] 72)
 have S0:Hid (Cq 72 _ w.heap.size _):=Cq.start 72 w #[.int .i64 kd, .int .i64 lo, .int .i64 hi, .int .i64 ab, .bool T.leaf, .slice a1 n1 q1, .slice a2 n2 q2, .slice a3 n3 q3, .slice a4 n4 q4]
 go_enter Tryz.func81,Tryz.ntmps81
 go_wp2_with fail;refine Calls.mono (KD.out 0 _ (by omega) B0.out) ?_
 rintro e w1 ⟨y,rfl,ty,hb1⟩
 have B1:Hid (Below w.heap.size w w1):=Below.and B0.out hb1
 have S1:=hid (S0.out.step hb1)
 have TY:=hid (ty.below hb1)
 clear B0 S0 hb1 ty;go_wp2_with fail;refine Calls.mono (DP.out 0 y w1 TY.out) ?_
 rintro e w2 ⟨rfl,hb2⟩
 have B2:=hid (Below.and B1.out hb2)
 have S2:=hid (S1.out.step hb2)
 have k0:=S2.out.cells
 have hf0:=KL.out 0
 clear B1 S1 hb2 TY;by_cases hz:f 0=0
 ·have E:=Z0.out 0 (by omega) hz
  subst E;rw[hz]
  go_wp2;go_ret;exact⟨rfl,B2.out⟩
 have hz1:((f 0:Int)==0)=false:=by rw[beq_eq_false_iff_ne];omega
 have HZ:Hid (f 0≠0):=hz
 go_wp2;go_loopw [4] (fun i wr=>∃k' :Nat,1<=k' ∧k' <=n3/\i= .int .i64 k' ∧Hid (∀i,i<k' ->f i=f 0)/\Hid (Below w.heap.size w wr)/\Hid (Cq 72 wr w.heap.size #[.int .i64 kd, .int .i64 lo, .int .i64 hi, .int .i64 ab, .bool T.leaf, .slice a1 n1 q1, .slice a2 n2 q2, .slice a3 n3 q3, .slice a4 n4 q4]))
  (fun i _=>n3-(intOf i).toNat)
 case atStart=>exact⟨1,by omega,by omega,rfl,fun i hi=>by rw[show i=0 by omega],B2,S2⟩
 case round=>
  clear B2 S2 k0;obtain⟨k',hk1,hkl,rfl,ALL,BB,SS⟩:=hrel
  have k0:=SS.out.cells
  by_cases hlt:k' < n3
  ·have hfk:=KL.out k'
   go_wp2_with fail;refine Calls.mono (KD.out k' _ hlt BB.out) ?_
   rintro e w3 ⟨y3,rfl,ty3,hb3⟩
   have B3:=hid (Below.and BB.out hb3)
   have S3:=hid (SS.out.step hb3)
   have TY:Hid (AO n w3 y3 (AV T k')):=ty3.below hb3
   clear hb3 ty3;go_wp2_with fail;refine Calls.mono (DP.out k' y3 w3 TY.out) ?_
   rintro e w4 ⟨rfl,hb4⟩
   have B4:Hid (Below w.heap.size w w4):=Below.and B3.out hb4
   have S4:Hid (Cq 72 w4 w.heap.size #[.int .i64 kd, .int .i64 lo, .int .i64 hi, .int .i64 ab, .bool T.leaf, .slice a1 n1 q1, .slice a2 n2 q2, .slice a3 n3 q3, .slice a4 n4 q4]):=S3.out.step hb4
   clear hb4 TY S3 B3;by_cases he:f k' =f 0
   ·have he1:((f k' :Int) != (f 0:Int))=false:=by rw[bne_eq_false_iff_eq];omega
    have HE:Hid (f k' =f 0):=he
    clear he;go_wp2;go_roundw
    case rel=>exact⟨k' +1,by omega,by omega,by go_num,fun i hi=>if h:i<k' then ALL.out i h else by rw[show i=k' by omega];exact HE.out,B4,S4⟩
    case measure=>simp[intOf];omega
   ·have he1:((f k' :Int) != (f 0:Int))=true:=by rw[bne_iff_ne];omega
    have E:=Z1.out k' hlt he
    subst E;go_wp2;go_ret;exact⟨rfl,B4.out⟩
  ·have E:=Y1.out HZ.out (fun i hi=>ALL.out i (by omega))
   subst E;go_wp2;go_ret;exact⟨Bq (by omega),BB.out⟩

theorem Sl {T:Tr} {lo hi:Int} (hb:T.cuts.length=0/\T.kids.length=0/\T.buf.length=0):Bt T lo hi=Cg T lo hi:=by
 rw[Bt,Cg,decide_eq_true (p:=T.cuts.length+T.kids.length+T.buf.length=0) (by omega)]
 cases Bo T.pairs<;>cases decide (T.pairs.length<=4)<;>rfl
theorem Sk {T:Tr} {lo hi:Int} (hb:T.pairs.length=0):BD T lo hi=(BK T lo hi&&Dy T lo hi):=by
 rw[BD,El,BK,Dy,decide_eq_true hb]
 cases decide (2<=T.kids.length/\T.kids.length<=4)<;>cases decide (T.cuts.length+1=T.kids.length)<;>cases decide (T.buf.length<=6)<;>cases Gi T lo hi<;>cases Fu T lo hi<;>rfl
theorem GL {T:Tr} {lo hi:Int} (h:BK T lo hi=true):(2<=T.kids.length/\T.kids.length<=4)/\T.cuts.length+1=T.kids.length:=by
 rw[BK] at h
 simp only[Bool.and_eq_true,decide_eq_true_eq] at h
 exact⟨h.1,h.2.1⟩

theorem VK {m:Nat} (hm:m<=6) (H:MC m):MC (m+1):=by
 intro n x T lo hi w ht
 cases n with
 |zero=>exact ht.elim
 |succ n=>
 have PO:Hid (∀w0,Below w.heap.size w w0->Calls Tryz.prog 78 #[Dw (Cb T) lo hi (7-((m+1:Nat):Int)) x] w0 fun e w' =>e= .returned (.bool (Cg T lo hi))/\Below w0.heap.size w0 w'):=fun w0 hb=>Qu (n+1) x T _ lo hi _ w0 (ht.below hb)
 have CO:Hid (∀w0,Below w.heap.size w w0->Calls Tryz.prog 79 #[Dw (Cb T) lo hi (7-((m+1:Nat):Int)) x] w0 fun e w' =>e= .returned (.bool (BK T lo hi))/\Below w0.heap.size w0 w'):=fun w0 hb=>Td (n+1) x T _ lo hi _ w0 (ht.below hb)
 have BO:Hid (∀w0,Below w.heap.size w w0->Calls Tryz.prog 80 #[Dw (Cb T) lo hi (7-((m+1:Nat):Int)) x] w0 fun e w' =>e= .returned (.bool (Dy T lo hi))/\Below w0.heap.size w0 w'):=fun w0 hb=>Vh (n+1) x T _ lo hi _ w0 (ht.below hb)
 have DK:Hid (∀w0,Below w.heap.size w w0->BK T lo hi=true->Calls Tryz.prog 81 #[Dw (Cb T) lo hi (7-((m+1:Nat):Int)) x] w0 fun e w' =>e= .returned (.int .i64 (Ej (Cu m T lo hi) T.kids.length:Nat))/\Below w0.heap.size w0 w'):=fun w0 hb hc=>MZ hm H n x T _ lo hi w0 (ht.below hb) (GL hc).1.1 (GL hc).1.2 (GL hc).2
 have hab:¬(7<=7-((m+1:Nat):Int)):=by omega
 have hab1:decide (7<=7-((m+1:Nat):Int))=false:=decide_eq_false hab
 have TD:Hid (∀kd w0,Calls Tryz.prog 77 #[Ps kd lo hi (7-((m+1:Nat):Int))] w0 fun e w' =>e= .returned (.bool false)/\Below w0.heap.size w0 w'):=fun kd w0=>by
  have:=Le kd lo hi (7-((m+1:Nat):Int)) w0
  rw[hab1] at this
  exact this
 clear hab hab1;have D1:Hid (T.leaf=true->AG (m+1) T lo hi=if Bt T lo hi=true then 1 else 0):=Cf
 have D2:Hid (T.leaf=false->BD T lo hi=false->AG (m+1) T lo hi=0):=KJ
 have D3:Hid (T.leaf=false->BD T lo hi=true->AG (m+1) T lo hi=Ej (Cu m T lo hi) T.kids.length):=CD
 generalize AG (m+1) T lo hi=R at *
 generalize (7-((m+1:Nat):Int))=ab at *
 obtain⟨lf,p,c,k,b⟩:=x
 have B0:Hid _:=Cd w (.cells #[.int .i64 (Cb T), .int .i64 lo, .int .i64 hi, .int .i64 ab, .bool lf,p,c,k,b] 72)
 have S0:Hid (Cq 72 _ w.heap.size _):=Cq.start 72 w #[.int .i64 (Cb T), .int .i64 lo, .int .i64 hi, .int .i64 ab, .bool lf,p,c,k,b]
 show Calls Tryz.prog 38 #[.agg #[.int .i64 (Cb T), .int .i64 lo, .int .i64 hi, .int .i64 ab, .bool lf,p,c,k,b]] w _
 have K:(T.leaf=true/\(T.cuts.length=0/\T.kids.length=0/\T.buf.length=0)/\Cb T=1)∨(T.leaf=true/\¬(T.cuts.length=0/\T.kids.length=0/\T.buf.length=0)/\Cb T=0)∨(T.leaf=false/\T.pairs.length=0/\Cb T=2)∨(T.leaf=false/\¬T.pairs.length=0/\Cb T=0):=by
  cases hlf:T.leaf
  ·by_cases hp:T.pairs.length=0
   ·exact Or.inr (Or.inr (Or.inl ⟨rfl,hp,MX hlf hp⟩))
   ·exact Or.inr (Or.inr (Or.inr ⟨rfl,hp,IF hlf hp⟩))
  ·by_cases hp:T.cuts.length=0/\T.kids.length=0/\T.buf.length=0
   ·exact Or.inl ⟨rfl,hp,Nl hlf hp⟩
   ·exact Or.inr (Or.inl ⟨rfl,hp,IQ hlf hp⟩)
 clear ht H;rcases K with⟨hlf,hb,hkd⟩|⟨hlf,hb,hkd⟩|⟨hlf,hb,hkd⟩|⟨hlf,hb,hkd⟩
 ·have E:=D1.out hlf
  rw[Sl hb] at E
  rw[hkd] at PO B0 S0 ⊢
  clear D1 D2 D3 CO BO DK hb hlf hkd;generalize Cg T lo hi=PB at *
  cases PB with
  |false=>
   simp only[Bool.false_eq_true,if_false] at E
   subst E;go_enter Tryz.func38,Tryz.ntmps38
   go_wp2_with fail;refine Calls.mono (TD.out _ _) ?_
   rintro e w1 ⟨rfl,hb1⟩
   have B1:Hid (Below w.heap.size w w1):=Below.and B0.out hb1
   have S1:=hid (S0.out.step hb1)
   have k0:=S1.out.cells
   clear hb1;go_wp2_with fail;refine Calls.mono (PO.out _ B1.out) ?_
   rintro e w2 ⟨rfl,hb2⟩
   have B2:=hid (Below.and B1.out hb2)
   have j0:=(S1.out.step hb2).cells
   clear hb2;go_wp2;go_ret;exact⟨rfl,B2.out⟩
  |true=>
   simp only[if_true] at E
   subst E;go_enter Tryz.func38,Tryz.ntmps38
   go_wp2_with fail;refine Calls.mono (TD.out _ _) ?_
   rintro e w1 ⟨rfl,hb1⟩
   have B1:=hid (Below.and B0.out hb1)
   have S1:=hid (S0.out.step hb1)
   have k0:=S1.out.cells
   clear hb1;go_wp2_with fail;refine Calls.mono (PO.out _ B1.out) ?_
   rintro e w2 ⟨rfl,hb2⟩
   have B2:=hid (Below.and B1.out hb2)
   have j0:=(S1.out.step hb2).cells
   clear hb2;go_wp2;go_ret;exact⟨rfl,B2.out⟩
 ·have E:=D1.out hlf
  rw[QP (by omega)] at E
  simp only[Bool.false_eq_true,if_false] at E
  subst E;rw[hkd] at B0 S0 ⊢
  clear D1 D2 D3 PO CO BO DK hb hlf hkd;go_enter Tryz.func38,Tryz.ntmps38
  go_wp2_with fail;refine Calls.mono (TD.out _ _) ?_
  rintro e w1 ⟨rfl,hb1⟩
  have B1:=hid (Below.and B0.out hb1)
  have S1:=hid (S0.out.step hb1)
  have k0:=S1.out.cells
  clear hb1;go_wp2;go_ret;exact⟨rfl,B1.out⟩
 ·have E2:=D2.out hlf
  have E3:=D3.out hlf
  rw[Sk hb] at E2 E3
  rw[hkd] at CO BO DK B0 S0 ⊢
  clear D1 D2 D3 PO hb hlf hkd;generalize Ej (Cu m T lo hi) T.kids.length=Q at *
  generalize BK T lo hi=CB at *
  generalize Dy T lo hi=BB at *
  cases CB with
  |false=>
   have E:=E2 rfl
   subst E;clear E2 E3;go_enter Tryz.func38,Tryz.ntmps38
   go_wp2_with fail;refine Calls.mono (TD.out _ _) ?_
   rintro e w1 ⟨rfl,hb1⟩
   have B1:=hid (Below.and B0.out hb1)
   have S1:=hid (S0.out.step hb1)
   have k0:=S1.out.cells
   clear hb1;go_wp2_with fail;refine Calls.mono (CO.out _ B1.out) ?_
   rintro e w2 ⟨rfl,hb2⟩
   have B2:=hid (Below.and B1.out hb2)
   have j0:=(S1.out.step hb2).cells
   clear hb2;go_wp2;go_ret;exact⟨rfl,B2.out⟩
  |true=>
   cases BB with
   |false=>
    have E:=E2 rfl
    subst E;clear E2 E3;go_enter Tryz.func38,Tryz.ntmps38
    go_wp2_with fail;refine Calls.mono (TD.out _ _) ?_
    rintro e w1 ⟨rfl,hb1⟩
    have B1:=hid (Below.and B0.out hb1)
    have S1:=hid (S0.out.step hb1)
    have k0:=S1.out.cells
    clear hb1;go_wp2_with fail;refine Calls.mono (CO.out _ B1.out) ?_
    rintro e w2 ⟨rfl,hb2⟩
    have B2:=hid (Below.and B1.out hb2)
    have j0:=(S1.out.step hb2).cells
    clear hb2;go_wp2_with fail;refine Calls.mono (BO.out _ B2.out) ?_
    rintro e w3 ⟨rfl,hb3⟩
    have B3:=hid (Below.and B2.out hb3)
    clear hb3;go_wp2;go_ret;exact⟨rfl,B3.out⟩
   |true=>
    have E:=E3 rfl
    subst E;clear E2 E3;go_enter Tryz.func38,Tryz.ntmps38
    go_wp2_with fail;refine Calls.mono (TD.out _ _) ?_
    rintro e w1 ⟨rfl,hb1⟩
    have B1:=hid (Below.and B0.out hb1)
    have S1:=hid (S0.out.step hb1)
    have k0:=S1.out.cells
    clear hb1;go_wp2_with fail;refine Calls.mono (CO.out _ B1.out) ?_
    rintro e w2 ⟨rfl,hb2⟩
    have B2:=hid (Below.and B1.out hb2)
    have S2:=hid (S1.out.step hb2)
    have j0:=S2.out.cells
    clear hb2;go_wp2_with fail;refine Calls.mono (BO.out _ B2.out) ?_
    rintro e w3 ⟨rfl,hb3⟩
    have B3:=hid (Below.and B2.out hb3)
    have i0:=(S2.out.step hb3).cells
    clear hb3;go_wp2_with fail;refine Calls.mono (DK.out _ B3.out trivial) ?_
    rintro e w4 ⟨rfl,hb4⟩
    have B4:=hid (Below.and B3.out hb4)
    clear hb4;go_wp2;go_ret;exact⟨rfl,B4.out⟩
 ·have E:=D2.out hlf (En (Oq hb))
  subst E;rw[hkd] at B0 S0 ⊢
  clear D1 D2 D3 PO CO BO DK hb hlf hkd;go_enter Tryz.func38,Tryz.ntmps38
  go_wp2_with fail;refine Calls.mono (TD.out _ _) ?_
  rintro e w1 ⟨rfl,hb1⟩
  have B1:=hid (Below.and B0.out hb1)
  have S1:=hid (S0.out.step hb1)
  have k0:=S1.out.cells
  clear hb1;go_wp2;go_ret;exact⟨rfl,B1.out⟩

theorem Ta:MC 0:=by
 intro n x T lo hi w ht;have E:AG 0 T lo hi=0:=rfl
 rw[E]
 have TD:=hid (fun kd w0=>Le kd lo hi 7 w0)
 obtain⟨lf,p,c,k,b⟩:=x
 have B0:Hid _:=Cd w (.cells #[.int .i64 (Cb T), .int .i64 lo, .int .i64 hi, .int .i64 7, .bool lf,p,c,k,b] 72)
 show Calls Tryz.prog 38 #[.agg #[.int .i64 (Cb T), .int .i64 lo, .int .i64 hi, .int .i64 7, .bool lf,p,c,k,b]] w _
 clear ht;go_enter Tryz.func38,Tryz.ntmps38
 go_wp2_with fail;refine Calls.mono (TD.out _ _) ?_
 rintro e w1 ⟨rfl,hb1⟩
 have B1:=hid (Below.and B0.out hb1)
 clear hb1;go_wp2;go_ret;exact⟨rfl,B1.out⟩

theorem Ou:∀m,m<=7->MC m
 |0,_=>Ta
 |m+1,h=>VK (by omega) (Ou m (by omega))
end
section
open Go.RowKit

theorem Gy (n:Nat) (x:TV) (T:Tr) (w:World) (ht:AO n w x T) :
  Calls Tryz.prog 15 #[x.val] w fun e w' =>e= .returned (.int .i64 (Ag T:Nat))/\Below w.heap.size w w' :=by
 have TT:=hid (ht)
 clear ht;obtain⟨lf,p,c,k,b⟩:=x
 have B0:Hid _:=Fs w #[.bool lf,p,c,k,b]
 have HR:=hid (fun w0 (hb:Below w.heap.size w w0)=>Sz n ⟨lf,p,c,k,b⟩ T w0 (TT.out.below hb))
 have HD:Hid (∀w0,Below w.heap.size w w0->Calls Tryz.prog 38 #[.agg #[.int .i64 (Cb T), .int .i64 0, .int .i64 1000, .int .i64 0, .bool lf,p,c,k,b]] w0 fun e w' =>e= .returned (.int .i64 (Ag T:Nat))/\Below w0.heap.size w0 w'):=fun w0 hb=>Ou 7 (by omega) n ⟨lf,p,c,k,b⟩ T 0 1000 w0 (TT.out.below hb)
 generalize Ag T=d at *
 generalize Cb T=kn at *
 show Calls Tryz.prog 15 #[.agg #[.bool lf,p,c,k,b]] w _
 go_enter Tryz.func15,Tryz.ntmps15
 go_wp2_with fail;refine Calls.mono (HR.out _ B0.out) ?_
 rintro e w1 ⟨rfl,hb1⟩
 have B1:Hid (Below w.heap.size w w1):=Below.and B0.out hb1
 clear hb1 B0;go_wp2_with fail;refine Calls.mono (HD.out _ B1.out) ?_
 rintro e w2 ⟨rfl,hb2⟩
 have B2:=hid (Below.and B1.out hb2)
 clear hb2 B1;go_wp2;go_ret;exact⟨rfl,B2.out⟩

theorem BP (n:Nat) (x:TV) (T:Tr) (w:World) (ht:AO n w x T) :
  Calls Tryz.prog 9 #[x.val] w fun e w' =>e= .returned (.bool (okT T))/\Below w.heap.size w w' :=by
 have TT:=hid (ht)
 clear ht;obtain⟨lf,p,c,k,b⟩:=x
 have B0:Hid _:=Fs w #[.bool lf,p,c,k,b]
 have HC:=Gy n ⟨lf,p,c,k,b⟩ T _ (TT.out.below B0.out)
 have HC' :Hid _:=HC
 clear HC;show Calls Tryz.prog 9 #[.agg #[.bool lf,p,c,k,b]] w _
 unfold okT;generalize Ag T=d at *
 go_enter Tryz.func9,Tryz.ntmps9
 go_wp2_with fail;refine Calls.mono HC'.out ?_
 rintro e w1 ⟨rfl,hb1⟩
 have B1:=hid (Below.and B0.out hb1)
 clear hb1 B0;go_wp2;go_ret;exact⟨rfl,B1.out⟩

theorem Rm {n:Nat} (H:Py 39 n):Py 39 (n+1):=by
 intro x T w ht hsz;obtain⟨lf,p,c,k,b⟩:=x
 obtain⟨-,hp,hc,hb,hk⟩:=ht.parts
 simp only at hp hc hb hk
 obtain⟨a1,q1,rfl,_⟩:=hp.len
 obtain⟨a4,q4,rfl,_⟩:=hb.len
 obtain⟨xs,hxl,hrow,hkt⟩:=hk
 obtain⟨a3,b3,off3,q3,he3,hcap3,hmax3,ha3,c0,c1,c2,c3,c4⟩:=hrow.trees
 rw[hxl] at he3 hcap3 ha3 c0 c1 c2 c3 c4 hkt
 subst he3;have hS:Az (n+1) T=T.pairs.length+(T.cuts.length+(T.kids.length+(T.kids.map (Az n)).sum+T.buf.length)):=rfl
 have KSZ:Hid (∀i,i<T.kids.length->Az n (AV T i)<=1099511627776):=fun i hi=>by have:=G8 (n:=n) hi;omega
 have m1:T.pairs.length<=1099511627776:=by omega
 have m3:T.kids.length<=1099511627776:=by omega
 have m4:T.buf.length<=1099511627776:=by omega
 have PL:Hid (∀k,T.pairs.length+Gw (Dm n) T.kids k<=1099511627776):=fun k=>by
  have h1:=Ue (Dm n) T.kids k
  have h2:=Gp (Of n) T.kids
  omega
 have QL:Hid (∀k,T.buf.length+Gw (DI n) T.kids k<=1099511627776):=fun k=>by
  have h1:=Ue (DI n) T.kids k
  have h2:=Gp (Rd n) T.kids
  omega
 have PS:Hid (∀k,k<T.kids.length->Gw (Dm n) T.kids (k+1)=Gw (Dm n) T.kids k+Dm n (AV T k)):=fun k hk=>OD _ _ k hk
 have QS:Hid (∀k,k<T.kids.length->Gw (DI n) T.kids (k+1)=Gw (DI n) T.kids k+DI n (AV T k)):=fun k hk=>OD _ _ k hk
 have PE:Hid (Dm (n+1) T=T.pairs.length+Gw (Dm n) T.kids T.kids.length):=by
  show _=_
  rw[Dm,Qn]
 have QE:Hid (DI (n+1) T=T.buf.length+Gw (DI n) T.kids T.kids.length):=by
  show _=_
  rw[DI,Qn]
 generalize Dm (n+1) T=PP at *
 generalize DI (n+1) T=QQ at *
 unfold maxLen at hmax3;clear hS hsz hp hc hb hrow ht;have KT:=hid (hkt)
 have SH:Hid (∀i,i<T.kids.length->∃(r1 r2 r3 r4:Option Addr) (z1 z2 z3 z4 s1 s2 s3 s4:Nat) (z0:Bool),Ay xs i=⟨z0, .slice r1 z1 s1, .slice r2 z2 s2, .slice r3 z3 s3, .slice r4 z4 s4⟩):=fun i hi=>by
  obtain⟨r1,r2,r3,r4,s1,s2,s3,s4,e⟩:=(KT.out i hi).shape
  exact⟨r1,r2,r3,r4,_,_,_,_,s1,s2,s3,s4,_,e⟩
 clear hkt hxl;generalize T.pairs.length=n1 at *
 generalize T.kids.length=n3 at *
 generalize T.buf.length=n4 at *
 show Calls Tryz.prog 39 #[.agg #[.bool lf, .slice a1 n1 q1,c, .slice a3 n3 q3, .slice a4 n4 q4]] w _
 have B0:Hid _:=Fs w #[.bool lf, .slice a1 n1 q1,c, .slice a3 n3 q3, .slice a4 n4 q4]
 go_enter Tryz.func39,Tryz.ntmps39
 go_wp2_with fail;go_quiet (fail)
 go_wp2;go_loopw [4,5,19] (fun pp mm i wr=>∃(k P Q:Nat),k<=n3/\i= .int .i64 k/\pp= .int .i64 P/\mm= .int .i64 Q/\P<=1099511627776/\Q<=1099511627776/\Hid (P=n1+Gw (Dm n) T.kids k)/\Hid (Q=n4+Gw (DI n) T.kids k)/\Hid (Below w.heap.size w wr))
  (fun _ _ i _=>n3-(intOf i).toNat)
 case atStart=>exact⟨0,n1,n4,Nat.zero_le _,rfl,rfl,rfl,m1,m4,by show _=_;rw[Ov];rfl,by show _=_;rw[Ov];rfl,below_drewN B0.out _⟩
 case round=>
  obtain⟨k,P,Q,hkl,rfl,rfl,rfl,hP,hQ,PK,QK,BB⟩:=hrel
  clear B0;by_cases hlt:k<n3
  ·have hal:=ha3 (by omega)
   subst hal;have e0:=(BB.out.cell (by exact Aa (c0 k hlt))).trans (c0 k hlt)
   have e1:=(BB.out.cell (by exact Aa (c1 k hlt))).trans (c1 k hlt)
   have e2:=(BB.out.cell (by exact Aa (c2 k hlt))).trans (c2 k hlt)
   have e3:=(BB.out.cell (by exact Aa (c3 k hlt))).trans (c3 k hlt)
   have e4:=(BB.out.cell (by exact Aa (c4 k hlt))).trans (c4 k hlt)
   have T0:=KT.out k hlt
   obtain⟨r1,r2,r3,r4,z1,z2,z3,z4,s1,s2,s3,s4,z0,hy⟩:=SH.out k hlt
   rw[hy] at T0 e0 e1 e2 e3 e4
   simp only at e0 e1 e2 e3 e4
   have TS:=hid (KSZ.out k hlt)
   have PK2:=PS.out k hlt
   have QK2:=QS.out k hlt
   have PL2:=PL.out (k+1)
   have QL2:=QL.out (k+1)
   have HC:=hid (fun w0 (hb:Below w.heap.size w w0)=>H ⟨z0, .slice r1 z1 s1, .slice r2 z2 s2, .slice r3 z3 s3, .slice r4 z4 s4⟩ (AV T k) w0 (T0.below hb) TS.out)
   have B1:=hid (fun o=>BB.out.alloc BB.out.size o)
   generalize Dm n (AV T k)=dp at *
   generalize DI n (AV T k)=dq at *
   have hP2:P+dp<=1099511627776:=by have:=PK.out;omega
   have hQ2:Q+dq<=1099511627776:=by have:=QK.out;omega
   have PK3:Hid (P+dp=n1+Gw (Dm n) T.kids (k+1)):=by
    show _=_
    have:=PK.out;omega
   have QK3:Hid (Q+dq=n4+Gw (DI n) T.kids (k+1)):=by
    show _=_
    have:=QK.out;omega
   clear PK2 QK2 PL2 QL2 c0 c1 c2 c3 c4 ha3 PK QK T0 hy;go_wp2_with fail;refine Calls.mono (HC.out _ (B1.out _)) ?_
   rintro e w1 ⟨rfl,hb1⟩
   have B2:=hid (Below.and (B1.out _) hb1)
   clear hb1 e0 e1 e2 e3 e4 HC;go_wp2;go_roundw
   case rel=>exact⟨k+1,P+dp,Q+dq,by omega,by go_num,by go_num,by go_num,hP2,hQ2,PK3,QK3,B2⟩
   case measure=>simp[intOf];omega
  ·have hkk:k=n3:=by omega
   have E1:Hid (PP=P):=by
    show _=_
    rw[PE.out,PK.out,hkk]
   have E2:Hid (QQ=Q):=by
    show _=_
    rw[QE.out,QK.out,hkk]
   clear c0 c1 c2 c3 c4 ha3 hkk;go_wp2;go_ret2
   exact⟨Wc (by rw[E1.out]) (by rw[E2.out]),BB.out⟩

theorem Jw:∀n,Py 39 n
 |0=>fun _ _ _ h=>h.elim
 |n+1=>Rm (Jw n)

theorem JR (n:Nat) (x:TV) (T:Tr) (w:World) (ht:AO n w x T) (hsz:Az n T<=1099511627776) :
  Calls Tryz.prog 16 #[x.val] w fun e w' =>e= .returned (.tuple #[.int .i64 (if okT T=true then (Dm n T:Nat) else 0), .int .i64 (if okT T=true then (DI n T:Nat) else 0)])/\Below w.heap.size w w' :=by
 have TT:=hid (ht)
 clear ht;obtain⟨lf,p,c,k,b⟩:=x
 have B0:Hid _:=Fs w #[.bool lf,p,c,k,b]
 have S0:=hid (Ao.start w #[.bool lf,p,c,k,b])
 have HC:=BP n ⟨lf,p,c,k,b⟩ T _ (TT.out.below B0.out)
 have HC' :Hid _:=HC
 clear HC;have HD:Hid (∀w1,Below w.heap.size w w1->Calls Tryz.prog 39 #[.agg #[.bool lf,p,c,k,b]] w1 fun e w' =>e= .returned (.tuple #[.int .i64 (Dm n T:Nat), .int .i64 (DI n T:Nat)])/\Below w1.heap.size w1 w'):=
  fun w1 hb=>Jw n ⟨lf,p,c,k,b⟩ T w1 (TT.out.below hb) hsz
 show Calls Tryz.prog 16 #[.agg #[.bool lf,p,c,k,b]] w _
 generalize Dm n T=P at *
 generalize DI n T=Q at *
 cases hok:okT T
 ·rw[hok] at HC'
  go_enter Tryz.func16,Tryz.ntmps16
  go_wp2_with fail;refine Calls.mono HC'.out ?_
  rintro e w1 ⟨rfl,hb1⟩
  have B1:=hid (Below.and B0.out hb1)
  clear hb1 B0;go_wp2;go_ret2
  exact⟨rfl,B1.out⟩
 ·rw[hok] at HC'
  go_enter Tryz.func16,Tryz.ntmps16
  go_wp2_with fail;refine Calls.mono HC'.out ?_
  rintro e w1 ⟨rfl,hb1⟩
  have B1:=hid (Below.and B0.out hb1)
  have k0:=(S0.out.step hb1).cells
  clear hb1 B0;go_wp2_with fail;refine Calls.mono (HD.out w1 B1.out) ?_
  rintro e w2 ⟨rfl,hb2⟩
  have B2:=hid (Below.and B1.out hb2)
  clear hb2 B1;go_wp2;go_ret2
  exact⟨rfl,B2.out⟩
end
section
open Go.RowKit

def EW (l:List Int) (k:Int):Nat->Nat
 |0=>0
 |n+1=>EW l k n+(if iAt l n<=k then 1 else 0)
theorem T8 (l:List Int) (k:Int):∀n,EW l k n<=n
 |0=>Nat.le_refl _
 |n+1=>by
  have:=T8 l k n
  rw[EW]
  split<;>omega
theorem RV {l:List Int} {k:Int} {n:Nat} (h:iAt l n<=k):EW l k (n+1)=EW l k n+1:=by rw[EW,if_pos h]
theorem Ub {l:List Int} {k:Int} {n:Nat} (h:¬iAt l n<=k):EW l k (n+1)=EW l k n:=by rw[EW,if_neg h,Nat.add_zero]

theorem Kt (v:Value) (l:List Int) (x0:Int) (w:World) (h:Row w v l.length (Ab l)) :
  Calls Tryz.prog 106 #[v, .int .i64 x0] w fun e w' =>e= .returned (.int .i64 (EW l x0 l.length:Nat))/\Below w.heap.size w w' :=by
 obtain⟨a2,b2,off2,q2,rfl,hcap2,hmax2,ha2,cc⟩:=h.ints
 unfold maxLen at hmax2;have CL:Hid (∀n,EW l x0 n<=n):=T8 l x0
 have C1:Hid (∀n,iAt l n<=x0->EW l x0 (n+1)=EW l x0 n+1):=fun n=>RV
 have C2:Hid (∀n,¬iAt l n<=x0->EW l x0 (n+1)=EW l x0 n):=fun n=>Ub
 have C0:Hid (EW l x0 0=0):=rfl
 generalize EW l x0=f at *
 clear h;generalize l.length=n2 at *
 go_enter Tryz.func106,Tryz.ntmps106
 go_wp2;go_loopw [5,10] (fun at' i wr=>∃k z:Nat,k<=n2/\i= .int .i64 k/\at' = .int .i64 z/\z<=k/\Hid (z=f k)/\wr=w)
  (fun _ i _=>n2-(intOf i).toNat)
 case atStart=>exact⟨0,0,Nat.zero_le _,rfl,rfl,Nat.le_refl _,C0.out.symm,rfl⟩
 case round=>
  obtain⟨k,z,hkl,rfl,rfl,hz,ZE,rfl⟩:=hrel
  by_cases hlt:k<n2
  ·have hal:=ha2 (by omega)
   subst hal;have d0:=cc k hlt
   clear cc ha2;by_cases hq:iAt l k<=x0
   ·have E:Hid (z+1=f (k+1)):=by
     show _=_
     rw[C1.out k hq,ZE.out]
    go_wp2;go_roundw
    case rel=>exact⟨k+1,z+1,by omega,by go_num,by go_num,by omega,E,trivial⟩
    case measure=>simp[intOf];omega
   ·have E:Hid (z=f (k+1)):=by
     show _=_
     rw[C2.out k (by omega),ZE.out]
    go_wp2;go_roundw
    case rel=>exact⟨k+1,z,by omega,by go_num,rfl,by omega,E,trivial⟩
    case measure=>simp[intOf];omega
  ·have hkk:k=n2:=by omega
   have E:Hid (f n2=z):=by
    show _=_
    rw[ZE.out,hkk]
   clear cc ha2 hkk;go_wp2;go_ret;exact⟨Bq (by rw[E.out]),Below.refl _ _⟩

theorem OB {l:List Int} {k:Int} (h:∀i j,i<j->j<l.length->iAt l i<iAt l j):EW l k l.length=AN l k:=by
 have hp:=G9 l k
 have key:∀n,n<=l.length->EW l k n=min n (AN l k):=by
  have hyes:∀i,i<AN l k->iAt l i<=k:=by
   clear h hp;intro i hi;induction l generalizing i with
   |nil=>simp[AN] at hi
   |cons a l ih=>
    by_cases ha:a<=k
    ·cases i with
     |zero=>simpa[iAt] using ha
     |succ i=>
      have:i<AN l k:=by
       simp only[AN] at hi ⊢
       rw[List.takeWhile_cons_of_pos (by simpa using ha),List.length_cons] at hi
       omega
      simpa[iAt] using ih i this
    ·simp[AN,ha] at hi
  have hno:AN l k<l.length->¬iAt l (AN l k)<=k:=by
   clear h hp hyes;induction l with
   |nil=>intro hl;simp at hl
   |cons a l ih=>
    intro hl;by_cases ha:a<=k
    ·have e:AN (a::l) k=AN l k+1:=by
      simp only[AN]
      rw[List.takeWhile_cons_of_pos (by simpa using ha),List.length_cons]
     rw[e] at hl ⊢
     simpa[iAt] using ih (by simpa using hl)
    ·have e:AN (a::l) k=0:=by simp[AN,ha]
     rw[e]
     simpa[iAt] using ha
  intro n;induction n with
  |zero=>intro _;simp[EW]
  |succ n ih=>
   intro hn;by_cases hc:n<AN l k
   ·rw[RV (hyes n hc),ih (by omega)];omega
   ·have hno2:¬iAt l n<=k:=by
     have h0:=hno (by omega)
     by_cases he:n=AN l k
     ·rw[he];exact h0
     ·have:=h (AN l k) n (by omega) (by omega)
      omega
    rw[Ub hno2,ih (by omega)];omega
 rw[key _ (Nat.le_refl _)]
 omega

theorem WY {T:Tr} {lo hi:Int} (h:Fu T lo hi=true):∀i j,i<j->j<T.cuts.length->iAt T.cuts i<iAt T.cuts j:=by
 intro i j hij hj;induction j with
 |zero=>omega
 |succ j ih=>
  have h1:=Fb h hj
  rw[Hs] at h1
  have h2:=Ey.1 h1
  by_cases he:i=j
  ·subst he;omega
  ·have:=ih (by omega) (by omega);omega
end
section
theorem Jt {p:Int × Int} {l:PL} {k v:Int} (h:p.1<k):B9 (p::l) k v=p::B9 l k v:=by
 simp[B9,h,show ¬k<p.1 by omega]
theorem JO {p:Int × Int} {l:PL} {k v:Int} (hg:∀q∈l,p.1<q.1) (h:p.1=k):B9 (p::l) k v=(k,v)::l:=by
 obtain⟨f1,f2,_⟩:=Fq (k:=k) (fun q hq=>by have:=hg q hq;omega)
 simp[B9,show ¬p.1<k by omega,show ¬k<p.1 by omega,f1,f2]
theorem Js {p:Int × Int} {l:PL} {k v:Int} (hg:∀q∈l,p.1<q.1) (h:k<p.1):B9 (p::l) k v=(k,v)::p::l:=by
 obtain⟨f1,f2,_⟩:=Fq (k:=k) (fun q hq=>by have:=hg q hq;omega)
 simp[B9,show ¬p.1<k by omega,h,f1,f2]

theorem Ct {l:PL} (h:Asc l) {j k v:Int} (hj:j≠k):AE (B9 l k v) j=AE l j:=by
 induction l with
 |nil=>simp[B9,AE,Ne.symm hj]
 |cons p l ih=>
  obtain⟨h1,h2⟩:=h.cons
  by_cases hlt:p.1<k
  ·rw[Jt hlt,AE,AE,ih h2]
  ·by_cases he:p.1=k
   ·rw[JO h1 he,AE,AE,if_neg (by simpa using Ne.symm hj),if_neg (by omega)]
   ·rw[Js h1 (by omega),AE,if_neg (by simpa using Ne.symm hj)]
theorem Dn {l:PL} (h:Asc l) (k v:Int):AE (B9 l k v) k=(v,true):=by
 induction l with
 |nil=>simp[B9,AE]
 |cons p l ih=>
  obtain⟨h1,h2⟩:=h.cons
  by_cases hlt:p.1<k
  ·rw[Jt hlt,AE,if_neg (by omega),ih h2]
  ·by_cases he:p.1=k
   ·rw[JO h1 he,AE,if_pos rfl]
   ·rw[Js h1 (by omega),AE,if_pos rfl]
theorem Lr (l:PL) {j k:Int} (hj:j≠k):AE (Dh l k) j=AE l j:=by
 induction l with
 |nil=>rfl
 |cons p l ih=>
  by_cases he:p.1=k
  ·rw[Dh,List.filter_cons_of_neg (by simp[he]),AE,if_neg (by omega)];exact ih
  ·rw[Dh,List.filter_cons_of_pos (by simp[he]),AE,AE]
   have:AE (List.filter (fun p=>decide (p.1≠k)) l) j=AE l j:=ih
   rw[this]
theorem Nh (l:PL) (k:Int):AE (Dh l k) k=(0,false):=by
 induction l with
 |nil=>rfl
 |cons p l ih=>
  by_cases he:p.1=k
  ·rw[Dh,List.filter_cons_of_neg (by simp[he])];exact ih
  ·rw[Dh,List.filter_cons_of_pos (by simp[he]),AE,if_neg he];exact ih
theorem UQ {l:PL} {o k v:Int} (h:Bo l=false∨AK o k v=false∨o=4):doL l (o,k,v)=l:=by
 unfold doL;split
 ·rename_i h1
  simp only at h1
  rcases h with h|h|h
  ·rw[h] at h1;cases h1.1
  ·rw[h] at h1;cases h1.2
  ·subst h;simp[doP]
 ·rfl
theorem Ot {l:PL} {o k v j:Int} (hj:j≠k):AE (doL l (o,k,v)) j=AE l j:=by
 unfold doL;split
 ·rename_i h1
  have hA:=((EJ l).1 h1.1).1
  unfold doP;simp only
  split
  ·exact Ct hA hj
  ·split
   ·exact Lr l hj
   ·split
    ·exact Ct hA hj
    ·rfl
 ·rfl
end
section
def ofK (ms:ML) (k:Int):ML:=ms.filter fun m=>decide (m.2.1=k)
theorem MW (a b:ML) (k:Int):ofK (a++b) k=ofK a k++ofK b k:=by simp[ofK]
def Pv (T:Tr) (k:Int):Tr:=AV T (AN T.cuts k)
def Rq:Nat->Tr->Int->Tr
 |0,T,_=>T
 |n+1,T,k=>if T.leaf=true then T else Rq n (Pv T k) k
def Oi:Nat->Tr->Int->ML
 |0,_,_=>[]
 |n+1,T,k=>if T.leaf=true then [] else Oi n (Pv T k) k++ofK T.buf k
def Vk (x:Int × Bool) (m:Int × Int × Int):Int × Bool:=
 if AK m.1 m.2.1 m.2.2=true then (if m.1=1 then (m.2.2,true) else if m.1=2 then (0,false) else if m.1=3 then (Bg (x.1+m.2.2),true) else x) else x
def Er (x:Int × Bool) (ms:ML):Int × Bool:=ms.foldl Vk x
theorem H5 (x:Int × Bool) (a b:ML):Er x (a++b)=Er (Er x a) b:=by simp[Er,List.foldl_append]

theorem IX {l:PL} (h:CJ l) (o k v:Int):AE (doL l (o,k,v)) k=Vk (AE l k) (o,k,v):=by
 have hm:Bo l=true:=(EJ l).2 h
 unfold doL Vk;by_cases hk:AK o k v=true
 ·simp only[hm,hk,and_self,if_true]
  unfold doP;simp only
  split
  ·exact Dn h.1 k v
  ·split
   ·exact Nh l k
   ·split
    ·exact Dn h.1 k _
    ·rfl
 ·simp[hk]
theorem Kq {l:PL} (h:CJ l) (ms:ML) (k:Int):AE (Cn l ms) k=Er (AE l k) (ofK ms k):=by
 induction ms generalizing l with
 |nil=>rfl
 |cons m ms ih=>
  obtain⟨o,j,v⟩:=m
  have e:Cn l ((o,j,v)::ms)=Cn (doL l (o,j,v)) ms:=rfl
  rw[e,ih (Kc h _)]
  by_cases hj:j=k
  ·subst hj;rw[IX h]
   simp[ofK,Er]
  ·rw[Ot (Ne.symm hj)]
   simp[ofK,hj]

def Fe (n:Nat) (T:Tr) (k:Int):Int × Bool:=Er (AE (Rq n T k).pairs k) (Oi n T k)

def Zl (l:PL) (k:Int):PL:=if (AE l k).2=true then [(k,(AE l k).1)] else []
theorem Ce {m:Nat} {T:Tr} {lo hi:Int} (h:AG (m+1) T lo hi≠0) (hl:T.leaf=true):Bt T lo hi=true:=by
 rw[Cf hl] at h
 split at h
 ·assumption
 ·exact absurd rfl h
theorem Bm {m:Nat} {T:Tr} {lo hi:Int} (h:AG (m+1) T lo hi≠0) (hl:T.leaf=false):BD T lo hi=true/\∀i,i<T.kids.length->AG m (AV T i) (CM T lo i) (toT T hi i)≠0:=by
 cases hf:BD T lo hi
 ·rw[KJ hl hf] at h;exact absurd rfl h
 ·refine⟨rfl,fun i hi0 h0=> ?_⟩
  rw[CD hl hf] at h
  exact h (Hl (d:=Cu m T lo hi) hi0 h0)
theorem AW {T:Tr} {lo hi:Int} (h:BD T lo hi=true):T.pairs=[]/\(2<=T.kids.length/\T.kids.length<=4)/\T.cuts.length+1=T.kids.length/\T.buf.length<=6/\Gi T lo hi=true/\Fu T lo hi=true:=by
 simp only[BD,El,Bool.and_eq_true,decide_eq_true_eq] at h
 obtain⟨⟨h1,h2,h3,h4⟩,h5,h6⟩:=h
 exact⟨List.length_eq_zero_iff.1 h1,h2,h3,h4,h5,h6⟩
theorem Dz {T:Tr} {lo hi:Int} (h:Bt T lo hi=true):CJ T.pairs/\T.pairs.length<=4/\T.kids=[]/\T.buf=[]/\T.cuts=[]/\∀p∈T.pairs,lo<=p.1/\p.1<hi:=by
 simp only[Bt,Bool.and_eq_true,decide_eq_true_eq] at h
 obtain⟨h1,h2,h3,h4⟩:=h
 refine⟨(EJ _).1 h1,h2,List.length_eq_zero_iff.1 (by omega),List.length_eq_zero_iff.1 (by omega),List.length_eq_zero_iff.1 (by omega),fun p hp=> ?_⟩
 obtain⟨i,hi0,rfl⟩:=List.getElem_of_mem hp
 have h5:=Ey.1 (Fb h4 hi0)
 simp only[kOf,List.getD,List.getElem?_eq_getElem hi0,Option.getD_some] at h5
 omega
theorem DU {T:Tr} {lo hi:Int} (h:Gi T lo hi=true):∀m∈T.buf,AK m.1 m.2.1 m.2.2=true/\lo<=m.2.1/\m.2.1<hi:=by
 intro m hm;obtain⟨i,hi0,rfl⟩:=List.getElem_of_mem hm
 have h5:=Fb h hi0
 simp only[Ex,Bool.and_eq_true] at h5
 have h6:=Ey.1 h5.2.2
 rw[DV _ _ hi0]
 exact⟨h5.1,h6.1,by show mK T.buf i<hi;omega⟩
theorem Gd {T:Tr} (h:okT T=true):AG 7 T 0 1000≠0:=by
 have h2:0<AG 7 T 0 1000:=of_decide_eq_true h
 exact Nat.pos_iff_ne_zero.1 h2
theorem PQ {T:Tr} {lo hi:Int} (h:BD T lo hi=true) (k:Int):AN T.cuts k<T.kids.length:=by
 have:=(AW h).2.2.1
 have:=G9 T.cuts k
 omega
end
end Go.Proofs.YtnakaabnjelffaaGreat
