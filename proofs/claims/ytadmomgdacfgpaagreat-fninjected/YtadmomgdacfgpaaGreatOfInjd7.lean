/-
  Contracts of the program's chapter 2: depthByKids, depth.
  Contracts of the program's chapter 2: TreeDepth, TreeOk, countAll, TreeCount, kidAt, KidOf.
  Contracts of the program's chapter 2: kidAt, KidOf.
  What a message makes of a map, key by key; plain mathematics.
  What chapter 3 says of trees, as plain functions: what is pending of a key, what a key has; plain mathematics.
-/
import Derived.Test.YtadmomgdacfgpaaGreatOfInjd6
import Derived.Test.YtadmomgdacfgpaaGreatOfInjd2
namespace Go.Proofs.YtadmomgdacfgpaaGreat
set_option maxRecDepth 100000
set_option maxHeartbeats 8000000
section
open Go.RowKit

def LQ (m:Nat):Prop:=∀(n:Nat) (x:TV) (T:Tr) (lo hi:Int) (w:World),AO n w x T→
  Calls Tryz.prog 26 #[Dl (BP T) lo hi (7-(m:Int)) x] w fun e w' =>e= .returned (.int .i64 (AE m T lo hi:Nat))/\Below w.heap.size w w'

theorem Lp {m:Nat} (hm:m<=6) (H:LQ m) (n:Nat) (x:TV) (T:Tr) (kd lo hi:Int) (w:World) (ht:AO (n+1) w x T) (hk2:2<=T.kids.length) (hk4:T.kids.length<=4) (hcl:T.cuts.length+1=T.kids.length) :
  Calls Tryz.prog 57 #[Dl kd lo hi (7-((m+1:Nat):Int)) x] w fun e w' =>e= .returned (.int .i64 (DY (Cm m T lo hi) T.kids.length:Nat))/\Below w.heap.size w w' :=by
 have KD:Hid (∀(i:Nat) (w0:World),i<T.kids.length->Below w.heap.size w w0->Calls Tryz.prog 93 #[Dl kd lo hi (7-((m+1:Nat):Int)) x, .int .i64 i] w0 fun e w' =>∃y:TV,e= .returned (Dl (BP (Ba T i)) (Da T lo i) (toT T hi i) (7-(m:Int)) y)/\AO n w0 y (Ba T i)/\Below w0.heap.size w0 w'):=by
  intro i w0 hik hb;have:=VK n x T kd lo hi (7-((m+1:Nat):Int)) i w0 (ht.below hb) hik hcl hk4 (by omega) (by omega)
  rw[show(7-((m+1:Nat):Int))+1=7-(m:Int) by omega] at this
  exact this
 have DP:Hid (∀(i:Nat) (y:TV) (w0:World),AO n w0 y (Ba T i)->Calls Tryz.prog 26 #[Dl (BP (Ba T i)) (Da T lo i) (toT T hi i) (7-(m:Int)) y] w0 fun e w' =>e= .returned (.int .i64 (Cm m T lo hi i:Nat))/\Below w0.heap.size w0 w'):=fun i y w0 h=>H n y (Ba T i) _ _ w0 h
 obtain⟨a1,a2,a3,a4,q1,q2,q3,q4,rfl⟩:=ht.shape
 have KL:Hid (∀i,Cm m T lo hi i<=7):=fun i=>by have:=Gq m (Ba T i) (Da T lo i) (toT T hi i);show AE m (Ba T i) (Da T lo i) (toT T hi i)<=7;omega
 have Z0:Hid (∀i,i<T.kids.length->Cm m T lo hi i=0->DY (Cm m T lo hi) T.kids.length=0):=fun i h1 h2=>GQ h1 h2
 have Z1:Hid (∀i,i<T.kids.length->Cm m T lo hi i≠Cm m T lo hi 0->DY (Cm m T lo hi) T.kids.length=0):=fun i h1 h2=>Gk h1 h2
 have Y1:Hid (Cm m T lo hi 0≠0->(∀i,i<T.kids.length->Cm m T lo hi i=Cm m T lo hi 0)->DY (Cm m T lo hi) T.kids.length=Cm m T lo hi 0+1):=EZ
 generalize DY (Cm m T lo hi) T.kids.length=R at *
 generalize Cm m T lo hi=f at *
 clear ht H;generalize T.pairs.length=n1 at *
 generalize T.cuts.length=n2 at *
 generalize T.kids.length=n3 at *
 generalize T.buf.length=n4 at *
 have ABL:Hid ((7-((m+1:Nat):Int))=(7-((m+1:Nat):Int))):=rfl
 clear ABL;generalize (7-((m+1:Nat):Int))=ab at *
 generalize (7-(m:Int))=ab1 at *
 show Calls Tryz.prog 57 #[.agg #[.int .i64 kd, .int .i64 lo, .int .i64 hi, .int .i64 ab, .bool T.leaf, .slice a1 n1 q1, .slice a2 n2 q2, .slice a3 n3 q3, .slice a4 n4 q4]] w _
 have B0:Hid _:=BK w (.cells #[.int .i64 kd, .int .i64 lo, .int .i64 hi, .int .i64 ab, .bool T.leaf, .slice a1 n1 q1, .slice a2 n2 q2, .slice a3 n3 q3, .slice a4 n4 q4] 57)
 have S0:Hid (Cf 57 _ w.heap.size _):=Cf.start 57 w #[.int .i64 kd, .int .i64 lo, .int .i64 hi, .int .i64 ab, .bool T.leaf, .slice a1 n1 q1, .slice a2 n2 q2, .slice a3 n3 q3, .slice a4 n4 q4]
 go_enter Tryz.func57,Tryz.ntmps57
 go_wp2_with fail;refine Calls.mono (KD.out 0 _ (by omega) B0.out) ?_
 rintro e w1 ⟨y,rfl,ty,hb1⟩
 have B1:Hid (Below w.heap.size w w1):=Below.and B0.out hb1
 have S1:=hid (S0.out.step hb1)
 have TY:=hid (ty.below hb1)
 clear B0 S0 hb1 ty;go_wp2_with fail;refine Calls.mono (DP.out 0 y w1 TY.out) ?_
 rintro e w2 ⟨rfl,hb2⟩
 have B2:=hid (Below.and B1.out hb2)
 have S2:=hid (S1.out.step hb2)
 have k0:=S2.out.cells
 have hf0:=KL.out 0
 clear B1 S1 hb2 TY;by_cases hz:f 0=0
 ·have E:=Z0.out 0 (by omega) hz
  subst E;rw[hz]
  go_wp2;go_ret;exact⟨rfl,B2.out⟩
 have hz1:((f 0:Int)==0)=false:=by rw[beq_eq_false_iff_ne];omega
 have HZ:Hid (f 0≠0):=hz
 go_wp2;go_loopw [4] (fun i wr=>∃k' :Nat,1<=k' ∧k' <=n3/\i= .int .i64 k' ∧Hid (∀i,i<k' ->f i=f 0)/\Hid (Below w.heap.size w wr)/\Hid (Cf 57 wr w.heap.size #[.int .i64 kd, .int .i64 lo, .int .i64 hi, .int .i64 ab, .bool T.leaf, .slice a1 n1 q1, .slice a2 n2 q2, .slice a3 n3 q3, .slice a4 n4 q4]))
  (fun i _=>n3-(intOf i).toNat)
 case atStart=>exact⟨1,by omega,by omega,rfl,fun i hi=>by rw[show i=0 by omega],B2,S2⟩
 case round=>
  clear B2 S2 k0;obtain⟨k',hk1,hkl,rfl,ALL,BB,SS⟩:=hrel
  have k0:=SS.out.cells
  by_cases hlt:k' < n3
  ·have hfk:=KL.out k'
   go_wp2_with fail;refine Calls.mono (KD.out k' _ hlt BB.out) ?_
   rintro e w3 ⟨y3,rfl,ty3,hb3⟩
   have B3:=hid (Below.and BB.out hb3)
   have S3:=hid (SS.out.step hb3)
   have TY:Hid (AO n w3 y3 (Ba T k')):=ty3.below hb3
   clear hb3 ty3;go_wp2_with fail;refine Calls.mono (DP.out k' y3 w3 TY.out) ?_
   rintro e w4 ⟨rfl,hb4⟩
   have B4:Hid (Below w.heap.size w w4):=Below.and B3.out hb4
   have S4:Hid (Cf 57 w4 w.heap.size #[.int .i64 kd, .int .i64 lo, .int .i64 hi, .int .i64 ab, .bool T.leaf, .slice a1 n1 q1, .slice a2 n2 q2, .slice a3 n3 q3, .slice a4 n4 q4]):=S3.out.step hb4
   clear hb4 TY S3 B3;by_cases he:f k' =f 0
   ·have he1:((f k' :Int) != (f 0:Int))=false:=by rw[bne_eq_false_iff_eq];omega
    have HE:Hid (f k' =f 0):=he
    clear he;go_wp2;go_roundw
    case rel=>exact⟨k' +1,by omega,by omega,by go_num,fun i hi=>if h:i<k' then ALL.out i h else by rw[show i=k' by omega];exact HE.out,B4,S4⟩
    case measure=>simp[intOf];omega
   ·have he1:((f k' :Int) != (f 0:Int))=true:=by rw[bne_iff_ne];omega
    have E:=Z1.out k' hlt he
    subst E;go_wp2;go_ret;exact⟨rfl,B4.out⟩
  ·have E:=Y1.out HZ.out (fun i hi=>ALL.out i (by omega))
   subst E;go_wp2;go_ret;exact⟨Bg (by omega),BB.out⟩

theorem Rg {T:Tr} {lo hi:Int} (hb:T.cuts.length=0/\T.kids.length=0/\T.buf.length=0):Bl T lo hi=BS T lo hi:=by
 rw[Bl,BS,decide_eq_true (p:=T.cuts.length+T.kids.length+T.buf.length=0) (by omega)]
 cases Bd T.pairs<;>cases decide (T.pairs.length<=4)<;>rfl
theorem Re {T:Tr} {lo hi:Int} (hb:T.pairs.length=0):Bn T lo hi=(BF T lo hi&&Dm T lo hi):=by
 rw[Bn,DZ,BF,Dm,decide_eq_true hb]
 cases decide (2<=T.kids.length/\T.kids.length<=4)<;>cases decide (T.cuts.length+1=T.kids.length)<;>cases decide (T.buf.length<=6)<;>cases GL T lo hi<;>cases E8 T lo hi<;>rfl
theorem Gj {T:Tr} {lo hi:Int} (h:BF T lo hi=true):(2<=T.kids.length/\T.kids.length<=4)/\T.cuts.length+1=T.kids.length:=by
 rw[BF] at h
 simp only[Bool.and_eq_true,decide_eq_true_eq] at h
 exact⟨h.1,h.2.1⟩

theorem UQ {m:Nat} (hm:m<=6) (H:LQ m):LQ (m+1):=by
 intro n x T lo hi w ht
 cases n with
 |zero=>exact ht.elim
 |succ n=>
 have PO:Hid (∀w0,Below w.heap.size w w0->Calls Tryz.prog 54 #[Dl (BP T) lo hi (7-((m+1:Nat):Int)) x] w0 fun e w' =>e= .returned (.bool (BS T lo hi))/\Below w0.heap.size w0 w'):=fun w0 hb=>OS (n+1) x T _ lo hi _ w0 (ht.below hb)
 have CO:Hid (∀w0,Below w.heap.size w w0->Calls Tryz.prog 55 #[Dl (BP T) lo hi (7-((m+1:Nat):Int)) x] w0 fun e w' =>e= .returned (.bool (BF T lo hi))/\Below w0.heap.size w0 w'):=fun w0 hb=>QU (n+1) x T _ lo hi _ w0 (ht.below hb)
 have BO:Hid (∀w0,Below w.heap.size w w0->Calls Tryz.prog 56 #[Dl (BP T) lo hi (7-((m+1:Nat):Int)) x] w0 fun e w' =>e= .returned (.bool (Dm T lo hi))/\Below w0.heap.size w0 w'):=fun w0 hb=>TF (n+1) x T _ lo hi _ w0 (ht.below hb)
 have DK:Hid (∀w0,Below w.heap.size w w0->BF T lo hi=true->Calls Tryz.prog 57 #[Dl (BP T) lo hi (7-((m+1:Nat):Int)) x] w0 fun e w' =>e= .returned (.int .i64 (DY (Cm m T lo hi) T.kids.length:Nat))/\Below w0.heap.size w0 w'):=fun w0 hb hc=>Lp hm H n x T _ lo hi w0 (ht.below hb) (Gj hc).1.1 (Gj hc).1.2 (Gj hc).2
 have hab:¬(7<=7-((m+1:Nat):Int)):=by omega
 have hab1:decide (7<=7-((m+1:Nat):Int))=false:=decide_eq_false hab
 have TD:Hid (∀kd w0,Calls Tryz.prog 53 #[NN kd lo hi (7-((m+1:Nat):Int))] w0 fun e w' =>e= .returned (.bool false)/\Below w0.heap.size w0 w'):=fun kd w0=>by
  have:=JY kd lo hi (7-((m+1:Nat):Int)) w0
  rw[hab1] at this
  exact this
 clear hab hab1;have D1:Hid (T.leaf=true->AE (m+1) T lo hi=if Bl T lo hi=true then 1 else 0):=Cu
 have D2:Hid (T.leaf=false->Bn T lo hi=false->AE (m+1) T lo hi=0):=Jv
 have D3:Hid (T.leaf=false->Bn T lo hi=true->AE (m+1) T lo hi=DY (Cm m T lo hi) T.kids.length):=Cv
 generalize AE (m+1) T lo hi=R at *
 generalize (7-((m+1:Nat):Int))=ab at *
 obtain⟨lf,p,c,k,b⟩:=x
 have B0:Hid _:=BK w (.cells #[.int .i64 (BP T), .int .i64 lo, .int .i64 hi, .int .i64 ab, .bool lf,p,c,k,b] 57)
 have S0:Hid (Cf 57 _ w.heap.size _):=Cf.start 57 w #[.int .i64 (BP T), .int .i64 lo, .int .i64 hi, .int .i64 ab, .bool lf,p,c,k,b]
 show Calls Tryz.prog 26 #[.agg #[.int .i64 (BP T), .int .i64 lo, .int .i64 hi, .int .i64 ab, .bool lf,p,c,k,b]] w _
 have K:(T.leaf=true/\(T.cuts.length=0/\T.kids.length=0/\T.buf.length=0)/\BP T=1)∨(T.leaf=true/\¬(T.cuts.length=0/\T.kids.length=0/\T.buf.length=0)/\BP T=0)∨(T.leaf=false/\T.pairs.length=0/\BP T=2)∨(T.leaf=false/\¬T.pairs.length=0/\BP T=0):=by
  cases hlf:T.leaf
  ·by_cases hp:T.pairs.length=0
   ·exact Or.inr (Or.inr (Or.inl ⟨rfl,hp,LK hlf hp⟩))
   ·exact Or.inr (Or.inr (Or.inr ⟨rfl,hp,H3 hlf hp⟩))
  ·by_cases hp:T.cuts.length=0/\T.kids.length=0/\T.buf.length=0
   ·exact Or.inl ⟨rfl,hp,KG hlf hp⟩
   ·exact Or.inr (Or.inl ⟨rfl,hp,H8 hlf hp⟩)
 clear ht H;rcases K with⟨hlf,hb,hkd⟩|⟨hlf,hb,hkd⟩|⟨hlf,hb,hkd⟩|⟨hlf,hb,hkd⟩
 ·have E:=D1.out hlf
  rw[Rg hb] at E
  rw[hkd] at PO B0 S0 ⊢
  clear D1 D2 D3 CO BO DK hb hlf hkd;generalize BS T lo hi=PB at *
  cases PB with
  |false=>
   simp only[Bool.false_eq_true,if_false] at E
   subst E;go_enter Tryz.func26,Tryz.ntmps26
   go_wp2_with fail;refine Calls.mono (TD.out _ _) ?_
   rintro e w1 ⟨rfl,hb1⟩
   have B1:Hid (Below w.heap.size w w1):=Below.and B0.out hb1
   have S1:=hid (S0.out.step hb1)
   have k0:=S1.out.cells
   clear hb1;go_wp2_with fail;refine Calls.mono (PO.out _ B1.out) ?_
   rintro e w2 ⟨rfl,hb2⟩
   have B2:=hid (Below.and B1.out hb2)
   have j0:=(S1.out.step hb2).cells
   clear hb2;go_wp2;go_ret;exact⟨rfl,B2.out⟩
  |true=>
   simp only[if_true] at E
   subst E;go_enter Tryz.func26,Tryz.ntmps26
   go_wp2_with fail;refine Calls.mono (TD.out _ _) ?_
   rintro e w1 ⟨rfl,hb1⟩
   have B1:=hid (Below.and B0.out hb1)
   have S1:=hid (S0.out.step hb1)
   have k0:=S1.out.cells
   clear hb1;go_wp2_with fail;refine Calls.mono (PO.out _ B1.out) ?_
   rintro e w2 ⟨rfl,hb2⟩
   have B2:=hid (Below.and B1.out hb2)
   have j0:=(S1.out.step hb2).cells
   clear hb2;go_wp2;go_ret;exact⟨rfl,B2.out⟩
 ·have E:=D1.out hlf
  rw[P5 (by omega)] at E
  simp only[Bool.false_eq_true,if_false] at E
  subst E;rw[hkd] at B0 S0 ⊢
  clear D1 D2 D3 PO CO BO DK hb hlf hkd;go_enter Tryz.func26,Tryz.ntmps26
  go_wp2_with fail;refine Calls.mono (TD.out _ _) ?_
  rintro e w1 ⟨rfl,hb1⟩
  have B1:=hid (Below.and B0.out hb1)
  have S1:=hid (S0.out.step hb1)
  have k0:=S1.out.cells
  clear hb1;go_wp2;go_ret;exact⟨rfl,B1.out⟩
 ·have E2:=D2.out hlf
  have E3:=D3.out hlf
  rw[Re hb] at E2 E3
  rw[hkd] at CO BO DK B0 S0 ⊢
  clear D1 D2 D3 PO hb hlf hkd;generalize DY (Cm m T lo hi) T.kids.length=Q at *
  generalize BF T lo hi=CB at *
  generalize Dm T lo hi=BB at *
  cases CB with
  |false=>
   have E:=E2 rfl
   subst E;clear E2 E3;go_enter Tryz.func26,Tryz.ntmps26
   go_wp2_with fail;refine Calls.mono (TD.out _ _) ?_
   rintro e w1 ⟨rfl,hb1⟩
   have B1:=hid (Below.and B0.out hb1)
   have S1:=hid (S0.out.step hb1)
   have k0:=S1.out.cells
   clear hb1;go_wp2_with fail;refine Calls.mono (CO.out _ B1.out) ?_
   rintro e w2 ⟨rfl,hb2⟩
   have B2:=hid (Below.and B1.out hb2)
   have j0:=(S1.out.step hb2).cells
   clear hb2;go_wp2;go_ret;exact⟨rfl,B2.out⟩
  |true=>
   cases BB with
   |false=>
    have E:=E2 rfl
    subst E;clear E2 E3;go_enter Tryz.func26,Tryz.ntmps26
    go_wp2_with fail;refine Calls.mono (TD.out _ _) ?_
    rintro e w1 ⟨rfl,hb1⟩
    have B1:=hid (Below.and B0.out hb1)
    have S1:=hid (S0.out.step hb1)
    have k0:=S1.out.cells
    clear hb1;go_wp2_with fail;refine Calls.mono (CO.out _ B1.out) ?_
    rintro e w2 ⟨rfl,hb2⟩
    have B2:=hid (Below.and B1.out hb2)
    have j0:=(S1.out.step hb2).cells
    clear hb2;go_wp2_with fail;refine Calls.mono (BO.out _ B2.out) ?_
    rintro e w3 ⟨rfl,hb3⟩
    have B3:=hid (Below.and B2.out hb3)
    clear hb3;go_wp2;go_ret;exact⟨rfl,B3.out⟩
   |true=>
    have E:=E3 rfl
    subst E;clear E2 E3;go_enter Tryz.func26,Tryz.ntmps26
    go_wp2_with fail;refine Calls.mono (TD.out _ _) ?_
    rintro e w1 ⟨rfl,hb1⟩
    have B1:=hid (Below.and B0.out hb1)
    have S1:=hid (S0.out.step hb1)
    have k0:=S1.out.cells
    clear hb1;go_wp2_with fail;refine Calls.mono (CO.out _ B1.out) ?_
    rintro e w2 ⟨rfl,hb2⟩
    have B2:=hid (Below.and B1.out hb2)
    have S2:=hid (S1.out.step hb2)
    have j0:=S2.out.cells
    clear hb2;go_wp2_with fail;refine Calls.mono (BO.out _ B2.out) ?_
    rintro e w3 ⟨rfl,hb3⟩
    have B3:=hid (Below.and B2.out hb3)
    have i0:=(S2.out.step hb3).cells
    clear hb3;go_wp2_with fail;refine Calls.mono (DK.out _ B3.out trivial) ?_
    rintro e w4 ⟨rfl,hb4⟩
    have B4:=hid (Below.and B3.out hb4)
    clear hb4;go_wp2;go_ret;exact⟨rfl,B4.out⟩
 ·have E:=D2.out hlf (Ea (MU hb))
  subst E;rw[hkd] at B0 S0 ⊢
  clear D1 D2 D3 PO CO BO DK hb hlf hkd;go_enter Tryz.func26,Tryz.ntmps26
  go_wp2_with fail;refine Calls.mono (TD.out _ _) ?_
  rintro e w1 ⟨rfl,hb1⟩
  have B1:=hid (Below.and B0.out hb1)
  have S1:=hid (S0.out.step hb1)
  have k0:=S1.out.cells
  clear hb1;go_wp2;go_ret;exact⟨rfl,B1.out⟩

theorem QH:LQ 0:=by
 intro n x T lo hi w ht;have E:AE 0 T lo hi=0:=rfl
 rw[E]
 have TD:=hid (fun kd w0=>JY kd lo hi 7 w0)
 obtain⟨lf,p,c,k,b⟩:=x
 have B0:Hid _:=BK w (.cells #[.int .i64 (BP T), .int .i64 lo, .int .i64 hi, .int .i64 7, .bool lf,p,c,k,b] 57)
 show Calls Tryz.prog 26 #[.agg #[.int .i64 (BP T), .int .i64 lo, .int .i64 hi, .int .i64 7, .bool lf,p,c,k,b]] w _
 clear ht;go_enter Tryz.func26,Tryz.ntmps26
 go_wp2_with fail;refine Calls.mono (TD.out _ _) ?_
 rintro e w1 ⟨rfl,hb1⟩
 have B1:=hid (Below.and B0.out hb1)
 clear hb1;go_wp2;go_ret;exact⟨rfl,B1.out⟩

theorem Nj:∀m,m<=7->LQ m
 |0,_=>QH
 |m+1,h=>UQ (by omega) (Nj m (by omega))
end
section
open Go.RowKit

theorem Et (n:Nat) (x:TV) (T:Tr) (w:World) (ht:AO n w x T) :
  Calls Tryz.prog 8 #[x.val] w fun e w' =>e= .returned (.int .i64 (Al T:Nat))/\Below w.heap.size w w' :=by
 have TT:=hid (ht)
 clear ht;obtain⟨lf,p,c,k,b⟩:=x
 have B0:Hid _:=Gb w #[.bool lf,p,c,k,b]
 have HR:=hid (fun w0 (hb:Below w.heap.size w w0)=>Rb n ⟨lf,p,c,k,b⟩ T w0 (TT.out.below hb))
 have HD:Hid (∀w0,Below w.heap.size w w0->Calls Tryz.prog 26 #[.agg #[.int .i64 (BP T), .int .i64 0, .int .i64 1000, .int .i64 0, .bool lf,p,c,k,b]] w0 fun e w' =>e= .returned (.int .i64 (Al T:Nat))/\Below w0.heap.size w0 w'):=fun w0 hb=>Nj 7 (by omega) n ⟨lf,p,c,k,b⟩ T 0 1000 w0 (TT.out.below hb)
 generalize Al T=d at *
 generalize BP T=kn at *
 show Calls Tryz.prog 8 #[.agg #[.bool lf,p,c,k,b]] w _
 go_enter Tryz.func8,Tryz.ntmps8
 go_wp2_with fail;refine Calls.mono (HR.out _ B0.out) ?_
 rintro e w1 ⟨rfl,hb1⟩
 have B1:Hid (Below w.heap.size w w1):=Below.and B0.out hb1
 clear hb1 B0;go_wp2_with fail;refine Calls.mono (HD.out _ B1.out) ?_
 rintro e w2 ⟨rfl,hb2⟩
 have B2:=hid (Below.and B1.out hb2)
 clear hb2 B1;go_wp2;go_ret;exact⟨rfl,B2.out⟩

theorem Es (n:Nat) (x:TV) (T:Tr) (w:World) (ht:AO n w x T) :
  Calls Tryz.prog 15 #[x.val] w fun e w' =>e= .returned (.bool (okT T))/\Below w.heap.size w w' :=by
 have TT:=hid (ht)
 clear ht;obtain⟨lf,p,c,k,b⟩:=x
 have B0:Hid _:=Gb w #[.bool lf,p,c,k,b]
 have HC:=Et n ⟨lf,p,c,k,b⟩ T _ (TT.out.below B0.out)
 have HC' :Hid _:=HC
 clear HC;show Calls Tryz.prog 15 #[.agg #[.bool lf,p,c,k,b]] w _
 unfold okT;generalize Al T=d at *
 go_enter Tryz.func15,Tryz.ntmps15
 go_wp2_with fail;refine Calls.mono HC'.out ?_
 rintro e w1 ⟨rfl,hb1⟩
 have B1:=hid (Below.and B0.out hb1)
 clear hb1 B0;go_wp2;go_ret;exact⟨rfl,B1.out⟩
end
section
open Go.RowKit

def EA (l:List Int) (k:Int):Nat->Nat
 |0=>0
 |n+1=>EA l k n+(if iAt l n<=k then 1 else 0)
theorem RJ (l:List Int) (k:Int):∀n,EA l k n<=n
 |0=>Nat.le_refl _
 |n+1=>by
  have:=RJ l k n
  rw[EA]
  split<;>omega
theorem Qe {l:List Int} {k:Int} {n:Nat} (h:iAt l n<=k):EA l k (n+1)=EA l k n+1:=by rw[EA,if_pos h]
theorem Ru {l:List Int} {k:Int} {n:Nat} (h:¬iAt l n<=k):EA l k (n+1)=EA l k n:=by rw[EA,if_neg h,Nat.add_zero]

theorem Jf (v:Value) (l:List Int) (x0:Int) (w:World) (h:Row w v l.length (Ad l)) :
  Calls Tryz.prog 89 #[v, .int .i64 x0] w fun e w' =>e= .returned (.int .i64 (EA l x0 l.length:Nat))/\Below w.heap.size w w' :=by
 obtain⟨a2,b2,off2,q2,rfl,hcap2,hmax2,ha2,cc⟩:=h.ints
 unfold maxLen at hmax2;have CL:Hid (∀n,EA l x0 n<=n):=RJ l x0
 have C1:Hid (∀n,iAt l n<=x0->EA l x0 (n+1)=EA l x0 n+1):=fun n=>Qe
 have C2:Hid (∀n,¬iAt l n<=x0->EA l x0 (n+1)=EA l x0 n):=fun n=>Ru
 have C0:Hid (EA l x0 0=0):=rfl
 generalize EA l x0=f at *
 clear h;generalize l.length=n2 at *
 go_enter Tryz.func89,Tryz.ntmps89
 go_wp2;go_loopw [5,10] (fun at' i wr=>∃k z:Nat,k<=n2/\i= .int .i64 k/\at' = .int .i64 z/\z<=k/\Hid (z=f k)/\wr=w)
  (fun _ i _=>n2-(intOf i).toNat)
 case atStart=>exact⟨0,0,Nat.zero_le _,rfl,rfl,Nat.le_refl _,C0.out.symm,rfl⟩
 case round=>
  obtain⟨k,z,hkl,rfl,rfl,hz,ZE,rfl⟩:=hrel
  by_cases hlt:k<n2
  ·have hal:=ha2 (by omega)
   subst hal;have d0:=cc k hlt
   clear cc ha2;by_cases hq:iAt l k<=x0
   ·have E:Hid (z+1=f (k+1)):=by
     show _=_
     rw[C1.out k hq,ZE.out]
    go_wp2;go_roundw
    case rel=>exact⟨k+1,z+1,by omega,by go_num,by go_num,by omega,E,trivial⟩
    case measure=>simp[intOf];omega
   ·have E:Hid (z=f (k+1)):=by
     show _=_
     rw[C2.out k (by omega),ZE.out]
    go_wp2;go_roundw
    case rel=>exact⟨k+1,z,by omega,by go_num,rfl,by omega,E,trivial⟩
    case measure=>simp[intOf];omega
  ·have hkk:k=n2:=by omega
   have E:Hid (f n2=z):=by
    show _=_
    rw[ZE.out,hkk]
   clear cc ha2 hkk;go_wp2;go_ret;exact⟨Bg (by rw[E.out]),Below.refl _ _⟩

theorem Mx {l:List Int} {k:Int} (h:∀i j,i<j->j<l.length->iAt l i<iAt l j):EA l k l.length=AH l k:=by
 have hp:=Gr l k
 have key:∀n,n<=l.length->EA l k n=min n (AH l k):=by
  have hyes:∀i,i<AH l k->iAt l i<=k:=by
   clear h hp;intro i hi;induction l generalizing i with
   |nil=>simp[AH] at hi
   |cons a l ih=>
    by_cases ha:a<=k
    ·cases i with
     |zero=>simpa[iAt] using ha
     |succ i=>
      have:i<AH l k:=by
       simp only[AH] at hi ⊢
       rw[List.takeWhile_cons_of_pos (by simpa using ha),List.length_cons] at hi
       omega
      simpa[iAt] using ih i this
    ·simp[AH,ha] at hi
  have hno:AH l k<l.length->¬iAt l (AH l k)<=k:=by
   clear h hp hyes;induction l with
   |nil=>intro hl;simp at hl
   |cons a l ih=>
    intro hl;by_cases ha:a<=k
    ·have e:AH (a::l) k=AH l k+1:=by
      simp only[AH]
      rw[List.takeWhile_cons_of_pos (by simpa using ha),List.length_cons]
     rw[e] at hl ⊢
     simpa[iAt] using ih (by simpa using hl)
    ·have e:AH (a::l) k=0:=by simp[AH,ha]
     rw[e]
     simpa[iAt] using ha
  intro n;induction n with
  |zero=>intro _;simp[EA]
  |succ n ih=>
   intro hn;by_cases hc:n<AH l k
   ·rw[Qe (hyes n hc),ih (by omega)];omega
   ·have hno2:¬iAt l n<=k:=by
     have h0:=hno (by omega)
     by_cases he:n=AH l k
     ·rw[he];exact h0
     ·have:=h (AH l k) n (by omega) (by omega)
      omega
    rw[Ru hno2,ih (by omega)];omega
 rw[key _ (Nat.le_refl _)]
 omega

theorem UK {T:Tr} {lo hi:Int} (h:E8 T lo hi=true):∀i j,i<j->j<T.cuts.length->iAt T.cuts i<iAt T.cuts j:=by
 intro i j hij hj;induction j with
 |zero=>omega
 |succ j ih=>
  have h1:=GP h hj
  rw[GN] at h1
  have h2:=Ec.1 h1
  by_cases he:i=j
  ·subst he;omega
  ·have:=ih (by omega) (by omega);omega
end
section
theorem IF {p:Int × Int} {l:PL} {k v:Int} (h:p.1<k):BH (p::l) k v=p::BH l k v:=by
 simp[BH,h,show ¬k<p.1 by omega]
theorem IK {p:Int × Int} {l:PL} {k v:Int} (hg:∀q∈l,p.1<q.1) (h:p.1=k):BH (p::l) k v=(k,v)::l:=by
 obtain⟨f1,f2,_⟩:=E6 (k:=k) (fun q hq=>by have:=hg q hq;omega)
 simp[BH,show ¬p.1<k by omega,show ¬k<p.1 by omega,f1,f2]
theorem IV {p:Int × Int} {l:PL} {k v:Int} (hg:∀q∈l,p.1<q.1) (h:k<p.1):BH (p::l) k v=(k,v)::p::l:=by
 obtain⟨f1,f2,_⟩:=E6 (k:=k) (fun q hq=>by have:=hg q hq;omega)
 simp[BH,show ¬p.1<k by omega,h,f1,f2]

theorem Ch {l:PL} (h:Asc l) {j k v:Int} (hj:j≠k):Aw (BH l k v) j=Aw l j:=by
 induction l with
 |nil=>simp[BH,Aw,Ne.symm hj]
 |cons p l ih=>
  obtain⟨h1,h2⟩:=h.cons
  by_cases hlt:p.1<k
  ·rw[IF hlt,Aw,Aw,ih h2]
  ·by_cases he:p.1=k
   ·rw[IK h1 he,Aw,Aw,if_neg (by simpa using Ne.symm hj),if_neg (by omega)]
   ·rw[IV h1 (by omega),Aw,if_neg (by simpa using Ne.symm hj)]
theorem Dd {l:PL} (h:Asc l) (k v:Int):Aw (BH l k v) k=(v,true):=by
 induction l with
 |nil=>simp[BH,Aw]
 |cons p l ih=>
  obtain⟨h1,h2⟩:=h.cons
  by_cases hlt:p.1<k
  ·rw[IF hlt,Aw,if_neg (by omega),ih h2]
  ·by_cases he:p.1=k
   ·rw[IK h1 he,Aw,if_pos rfl]
   ·rw[IV h1 (by omega),Aw,if_pos rfl]
theorem Kb (l:PL) {j k:Int} (hj:j≠k):Aw (C5 l k) j=Aw l j:=by
 induction l with
 |nil=>rfl
 |cons p l ih=>
  by_cases he:p.1=k
  ·rw[C5,List.filter_cons_of_neg (by simp[he]),Aw,if_neg (by omega)];exact ih
  ·rw[C5,List.filter_cons_of_pos (by simp[he]),Aw,Aw]
   have:Aw (List.filter (fun p=>decide (p.1≠k)) l) j=Aw l j:=ih
   rw[this]
theorem K6 (l:PL) (k:Int):Aw (C5 l k) k=(0,false):=by
 induction l with
 |nil=>rfl
 |cons p l ih=>
  by_cases he:p.1=k
  ·rw[C5,List.filter_cons_of_neg (by simp[he])];exact ih
  ·rw[C5,List.filter_cons_of_pos (by simp[he]),Aw,if_neg he];exact ih
theorem Td {l:PL} {o k v:Int} (h:Bd l=false∨AJ o k v=false∨o=4):doL l (o,k,v)=l:=by
 unfold doL;split
 ·rename_i h1
  simp only at h1
  rcases h with h|h|h
  ·rw[h] at h1;cases h1.1
  ·rw[h] at h1;cases h1.2
  ·subst h;simp[doP]
 ·rfl
theorem MJ {l:PL} {o k v j:Int} (hj:j≠k):Aw (doL l (o,k,v)) j=Aw l j:=by
 unfold doL;split
 ·rename_i h1
  have hA:=((Ef l).1 h1.1).1
  unfold doP;simp only
  split
  ·exact Ch hA hj
  ·split
   ·exact Kb l hj
   ·split
    ·exact Ch hA hj
    ·rfl
 ·rfl
end
section
def ofK (ms:ML) (k:Int):ML:=ms.filter fun m=>decide (m.2.1=k)
theorem Ko (a b:ML) (k:Int):ofK (a++b) k=ofK a k++ofK b k:=by simp[ofK]
def Qp (T:Tr) (k:Int):Tr:=Ba T (AH T.cuts k)
def Mv:Nat->Tr->Int->Tr
 |0,T,_=>T
 |n+1,T,k=>if T.leaf=true then T else Mv n (Qp T k) k
def J3:Nat->Tr->Int->ML
 |0,_,_=>[]
 |n+1,T,k=>if T.leaf=true then [] else J3 n (Qp T k) k++ofK T.buf k
def Tq (x:Int × Bool) (m:Int × Int × Int):Int × Bool:=
 if AJ m.1 m.2.1 m.2.2=true then (if m.1=1 then (m.2.2,true) else if m.1=2 then (0,false) else if m.1=3 then (A0 (x.1+m.2.2),true) else x) else x
def Eh (x:Int × Bool) (ms:ML):Int × Bool:=ms.foldl Tq x
theorem G6 (x:Int × Bool) (a b:ML):Eh x (a++b)=Eh (Eh x a) b:=by simp[Eh,List.foldl_append]

theorem H7 {l:PL} (h:Cy l) (o k v:Int):Aw (doL l (o,k,v)) k=Tq (Aw l k) (o,k,v):=by
 have hm:Bd l=true:=(Ef l).2 h
 unfold doL Tq;by_cases hk:AJ o k v=true
 ·simp only[hm,hk,and_self,if_true]
  unfold doP;simp only
  split
  ·exact Dd h.1 k v
  ·split
   ·exact K6 l k
   ·split
    ·exact Dd h.1 k _
    ·rfl
 ·simp[hk]
theorem I8 {l:PL} (h:Cy l) (ms:ML) (k:Int):Aw (Cb l ms) k=Eh (Aw l k) (ofK ms k):=by
 induction ms generalizing l with
 |nil=>rfl
 |cons m ms ih=>
  obtain⟨o,j,v⟩:=m
  have e:Cb l ((o,j,v)::ms)=Cb (doL l (o,j,v)) ms:=rfl
  rw[e,ih (IH h _)]
  by_cases hj:j=k
  ·subst hj;rw[H7 h]
   simp[ofK,Eh]
  ·rw[MJ (Ne.symm hj)]
   simp[ofK,hj]

def FW (n:Nat) (T:Tr) (k:Int):Int × Bool:=Eh (Aw (Mv n T k).pairs k) (J3 n T k)

def W7 (l:PL) (k:Int):PL:=if (Aw l k).2=true then [(k,(Aw l k).1)] else []
theorem Cc {m:Nat} {T:Tr} {lo hi:Int} (h:AE (m+1) T lo hi≠0) (hl:T.leaf=true):Bl T lo hi=true:=by
 rw[Cu hl] at h
 split at h
 ·assumption
 ·exact absurd rfl h
theorem BJ {m:Nat} {T:Tr} {lo hi:Int} (h:AE (m+1) T lo hi≠0) (hl:T.leaf=false):Bn T lo hi=true/\∀i,i<T.kids.length->AE m (Ba T i) (Da T lo i) (toT T hi i)≠0:=by
 cases hf:Bn T lo hi
 ·rw[Jv hl hf] at h;exact absurd rfl h
 ·refine⟨rfl,fun i hi0 h0=> ?_⟩
  rw[Cv hl hf] at h
  exact h (GQ (d:=Cm m T lo hi) hi0 h0)
theorem Br {T:Tr} {lo hi:Int} (h:Bn T lo hi=true):T.pairs=[]/\(2<=T.kids.length/\T.kids.length<=4)/\T.cuts.length+1=T.kids.length/\T.buf.length<=6/\GL T lo hi=true/\E8 T lo hi=true:=by
 simp only[Bn,DZ,Bool.and_eq_true,decide_eq_true_eq] at h
 obtain⟨⟨h1,h2,h3,h4⟩,h5,h6⟩:=h
 exact⟨List.length_eq_zero_iff.1 h1,h2,h3,h4,h5,h6⟩
theorem DF {T:Tr} {lo hi:Int} (h:Bl T lo hi=true):Cy T.pairs/\T.pairs.length<=4/\T.kids=[]/\T.buf=[]/\T.cuts=[]/\∀p∈T.pairs,lo<=p.1/\p.1<hi:=by
 simp only[Bl,Bool.and_eq_true,decide_eq_true_eq] at h
 obtain⟨h1,h2,h3,h4⟩:=h
 refine⟨(Ef _).1 h1,h2,List.length_eq_zero_iff.1 (by omega),List.length_eq_zero_iff.1 (by omega),List.length_eq_zero_iff.1 (by omega),fun p hp=> ?_⟩
 obtain⟨i,hi0,rfl⟩:=List.getElem_of_mem hp
 have h5:=Ec.1 (GP h4 hi0)
 simp only[kOf,List.getD,List.getElem?_eq_getElem hi0,Option.getD_some] at h5
 omega
theorem Gc {T:Tr} {lo hi:Int} (h:GL T lo hi=true):∀m∈T.buf,AJ m.1 m.2.1 m.2.2=true/\lo<=m.2.1/\m.2.1<hi:=by
 intro m hm;obtain⟨i,hi0,rfl⟩:=List.getElem_of_mem hm
 have h5:=GP h hi0
 simp only[Ev,Bool.and_eq_true] at h5
 have h6:=Ec.1 h5.2.2
 rw[D7 _ _ hi0]
 exact⟨h5.1,h6.1,by show mK T.buf i<hi;omega⟩
theorem Gp {T:Tr} (h:okT T=true):AE 7 T 0 1000≠0:=by
 have h2:0<AE 7 T 0 1000:=of_decide_eq_true h
 exact Nat.pos_iff_ne_zero.1 h2
theorem NP {T:Tr} {lo hi:Int} (h:Bn T lo hi=true) (k:Int):AH T.cuts k<T.kids.length:=by
 have:=(Br h).2.2.1
 have:=Gr T.cuts k
 omega
end
end Go.Proofs.YtadmomgdacfgpaaGreat
