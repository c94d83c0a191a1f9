/-
  Contracts of the program's chapter 2: depthByKids, depth.
  Contracts of the program's chapter 2: TreeDepth, TreeOk, countAll, TreeCount, kidAt, KidOf.
  Contracts of the program's chapter 2: kidAt, KidOf.
  What a message makes of a map, key by key; plain mathematics.
  What chapter 3 says of trees, as plain functions: what is pending of a key, what a key has; plain mathematics.
-/
import Derived.Test.YtebglpllkjgjbaaGreatOfBuild5
import Derived.Test.YtebglpllkjgjbaaGreatOfBuild3
namespace Go.Proofs.YtebglpllkjgjbaaGreat
set_option maxRecDepth 100000
set_option maxHeartbeats 8000000
section
open Go.RowKit

def Mw (m:Nat):Prop:=∀(n:Nat) (x:TV) (T:Tr) (lo hi:Int) (w:World),AH n w x T→
  Calls Tryz.prog 84 #[DB (Cd T) lo hi (7-(m:Int)) x] w fun e w' =>e= .returned (.int .i64 (AG m T lo hi:Nat))/\Below w.heap.size w w'

theorem Lu {m:Nat} (hm:m<=6) (H:Mw m) (n:Nat) (x:TV) (T:Tr) (kd lo hi:Int) (w:World) (ht:AH (n+1) w x T) (hk2:2<=T.kids.length) (hk4:T.kids.length<=4) (hcl:T.cuts.length+1=T.kids.length) :
  Calls Tryz.prog 111 #[DB kd lo hi (7-((m+1:Nat):Int)) x] w fun e w' =>e= .returned (.int .i64 (El (CD m T lo hi) T.kids.length:Nat))/\Below w.heap.size w w' :=by
 have KD:Hid (∀(i:Nat) (w0:World),i<T.kids.length->Below w.heap.size w w0->Calls Tryz.prog 126 #[DB kd lo hi (7-((m+1:Nat):Int)) x, .int .i64 i] w0 fun e w' =>∃y:TV,e= .returned (DB (Cd (Bb T i)) (Dw T lo i) (toT T hi i) (7-(m:Int)) y)/\AH n w0 y (Bb T i)/\Below w0.heap.size w0 w'):=by
  intro i w0 hik hb;have:=Xl n x T kd lo hi (7-((m+1:Nat):Int)) i w0 (ht.below hb) hik hcl hk4 (by omega) (by omega)
  rw[show(7-((m+1:Nat):Int))+1=7-(m:Int) by omega] at this
  exact this
 have DP:Hid (∀(i:Nat) (y:TV) (w0:World),AH n w0 y (Bb T i)->Calls Tryz.prog 84 #[DB (Cd (Bb T i)) (Dw T lo i) (toT T hi i) (7-(m:Int)) y] w0 fun e w' =>e= .returned (.int .i64 (CD m T lo hi i:Nat))/\Below w0.heap.size w0 w'):=fun i y w0 h=>H n y (Bb T i) _ _ w0 h
 obtain⟨a1,a2,a3,a4,q1,q2,q3,q4,rfl⟩:=ht.shape
 have KL:Hid (∀i,CD m T lo hi i<=7):=fun i=>by have:=GS m (Bb T i) (Dw T lo i) (toT T hi i);show AG m (Bb T i) (Dw T lo i) (toT T hi i)<=7;omega
 have Z0:Hid (∀i,i<T.kids.length->CD m T lo hi i=0->El (CD m T lo hi) T.kids.length=0):=fun i h1 h2=>Hg h1 h2
 have Z1:Hid (∀i,i<T.kids.length->CD m T lo hi i≠CD m T lo hi 0->El (CD m T lo hi) T.kids.length=0):=fun i h1 h2=>GQ h1 h2
 have Y1:Hid (CD m T lo hi 0≠0->(∀i,i<T.kids.length->CD m T lo hi i=CD m T lo hi 0)->El (CD m T lo hi) T.kids.length=CD m T lo hi 0+1):=F9
 generalize El (CD m T lo hi) T.kids.length=R at *
 generalize CD m T lo hi=f at *
 clear ht H;generalize T.pairs.length=n1 at *
 generalize T.cuts.length=n2 at *
 generalize T.kids.length=n3 at *
 generalize T.buf.length=n4 at *
 have ABL:Hid ((7-((m+1:Nat):Int))=(7-((m+1:Nat):Int))):=rfl
 clear ABL;generalize (7-((m+1:Nat):Int))=ab at *
 generalize (7-(m:Int))=ab1 at *
 show Calls Tryz.prog 111 #[.agg #[.int .i64 kd, .int .i64 lo, .int .i64 hi, .int .i64 ab, .bool T.leaf, .slice a1 n1 q1, .slice a2 n2 q2, .slice a3 n3 q3, .slice a4 n4 q4]] w _
 have B0:Hid _:=Cb w (.cells #[.int .i64 kd, .int .i64 lo, .int .i64 hi, .int .i64 ab, .bool T.leaf, .slice a1 n1 q1, .slice a2 n2 q2, .slice a3 n3 q3, .slice a4 n4 q4] 108)
 have S0:Hid (Ct 108 _ w.heap.size _):=Ct.start 108 w #[.int .i64 kd, .int .i64 lo, .int .i64 hi, .int .i64 ab, .bool T.leaf, .slice a1 n1 q1, .slice a2 n2 q2, .slice a3 n3 q3, .slice a4 n4 q4]
 go_enter Tryz.func111,Tryz.ntmps111
 go_wp2_with fail;refine Calls.mono (KD.out 0 _ (by omega) B0.out) ?_
 rintro e w1 ⟨y,rfl,ty,hb1⟩
 have B1:Hid (Below w.heap.size w w1):=Below.and B0.out hb1
 have S1:=hid (S0.out.step hb1)
 have TY:=hid (ty.below hb1)
 clear B0 S0 hb1 ty;go_wp2_with fail;refine Calls.mono (DP.out 0 y w1 TY.out) ?_
 rintro e w2 ⟨rfl,hb2⟩
 have B2:=hid (Below.and B1.out hb2)
 have S2:=hid (S1.out.step hb2)
 have k0:=S2.out.cells
 have hf0:=KL.out 0
 clear B1 S1 hb2 TY;by_cases hz:f 0=0
 ·have E:=Z0.out 0 (by omega) hz
  subst E;rw[hz]
  go_wp2;go_ret;exact⟨rfl,B2.out⟩
 have hz1:((f 0:Int)==0)=false:=by rw[beq_eq_false_iff_ne];omega
 have HZ:Hid (f 0≠0):=hz
 go_wp2;go_loopw [4] (fun i wr=>∃k' :Nat,1<=k' ∧k' <=n3/\i= .int .i64 k' ∧Hid (∀i,i<k' ->f i=f 0)/\Hid (Below w.heap.size w wr)/\Hid (Ct 108 wr w.heap.size #[.int .i64 kd, .int .i64 lo, .int .i64 hi, .int .i64 ab, .bool T.leaf, .slice a1 n1 q1, .slice a2 n2 q2, .slice a3 n3 q3, .slice a4 n4 q4]))
  (fun i _=>n3-(intOf i).toNat)
 case atStart=>exact⟨1,by omega,by omega,rfl,fun i hi=>by rw[show i=0 by omega],B2,S2⟩
 case round=>
  clear B2 S2 k0;obtain⟨k',hk1,hkl,rfl,ALL,BB,SS⟩:=hrel
  have k0:=SS.out.cells
  by_cases hlt:k' < n3
  ·have hfk:=KL.out k'
   go_wp2_with fail;refine Calls.mono (KD.out k' _ hlt BB.out) ?_
   rintro e w3 ⟨y3,rfl,ty3,hb3⟩
   have B3:=hid (Below.and BB.out hb3)
   have S3:=hid (SS.out.step hb3)
   have TY:Hid (AH n w3 y3 (Bb T k')):=ty3.below hb3
   clear hb3 ty3;go_wp2_with fail;refine Calls.mono (DP.out k' y3 w3 TY.out) ?_
   rintro e w4 ⟨rfl,hb4⟩
   have B4:Hid (Below w.heap.size w w4):=Below.and B3.out hb4
   have S4:Hid (Ct 108 w4 w.heap.size #[.int .i64 kd, .int .i64 lo, .int .i64 hi, .int .i64 ab, .bool T.leaf, .slice a1 n1 q1, .slice a2 n2 q2, .slice a3 n3 q3, .slice a4 n4 q4]):=S3.out.step hb4
   clear hb4 TY S3 B3;by_cases he:f k' =f 0
   ·have he1:((f k' :Int) != (f 0:Int))=false:=by rw[bne_eq_false_iff_eq];omega
    have HE:Hid (f k' =f 0):=he
    clear he;go_wp2;go_roundw
    case rel=>exact⟨k' +1,by omega,by omega,by go_num,fun i hi=>if h:i<k' then ALL.out i h else by rw[show i=k' by omega];exact HE.out,B4,S4⟩
    case measure=>simp[intOf];omega
   ·have he1:((f k' :Int) != (f 0:Int))=true:=by rw[bne_iff_ne];omega
    have E:=Z1.out k' hlt he
    subst E;go_wp2;go_ret;exact⟨rfl,B4.out⟩
  ·have E:=Y1.out HZ.out (fun i hi=>ALL.out i (by omega))
   subst E;go_wp2;go_ret;exact⟨Bd (by omega),BB.out⟩

theorem R6 {T:Tr} {lo hi:Int} (hb:T.cuts.length=0/\T.kids.length=0/\T.buf.length=0):Bx T lo hi=Ch T lo hi:=by
 rw[Bx,Ch,decide_eq_true (p:=T.cuts.length+T.kids.length+T.buf.length=0) (by omega)]
 cases Bf T.pairs<;>cases decide (T.pairs.length<=4)<;>rfl
theorem Sd {T:Tr} {lo hi:Int} (hb:T.pairs.length=0):BK T lo hi=(BT T lo hi&&Dx T lo hi):=by
 rw[BK,En,BT,Dx,decide_eq_true hb]
 cases decide (2<=T.kids.length/\T.kids.length<=4)<;>cases decide (T.cuts.length+1=T.kids.length)<;>cases decide (T.buf.length<=6)<;>cases Hi T lo hi<;>cases Fr T lo hi<;>rfl
theorem GL {T:Tr} {lo hi:Int} (h:BT T lo hi=true):(2<=T.kids.length/\T.kids.length<=4)/\T.cuts.length+1=T.kids.length:=by
 rw[BT] at h
 simp only[Bool.and_eq_true,decide_eq_true_eq] at h
 exact⟨h.1,h.2.1⟩

theorem WZ {m:Nat} (hm:m<=6) (H:Mw m):Mw (m+1):=by
 intro n x T lo hi w ht
 cases n with
 |zero=>exact ht.elim
 |succ n=>
 have PO:Hid (∀w0,Below w.heap.size w w0->Calls Tryz.prog 108 #[DB (Cd T) lo hi (7-((m+1:Nat):Int)) x] w0 fun e w' =>e= .returned (.bool (Ch T lo hi))/\Below w0.heap.size w0 w'):=fun w0 hb=>Rs (n+1) x T _ lo hi _ w0 (ht.below hb)
 have CO:Hid (∀w0,Below w.heap.size w w0->Calls Tryz.prog 109 #[DB (Cd T) lo hi (7-((m+1:Nat):Int)) x] w0 fun e w' =>e= .returned (.bool (BT T lo hi))/\Below w0.heap.size w0 w'):=fun w0 hb=>Sz (n+1) x T _ lo hi _ w0 (ht.below hb)
 have BO:Hid (∀w0,Below w.heap.size w w0->Calls Tryz.prog 110 #[DB (Cd T) lo hi (7-((m+1:Nat):Int)) x] w0 fun e w' =>e= .returned (.bool (Dx T lo hi))/\Below w0.heap.size w0 w'):=fun w0 hb=>VO (n+1) x T _ lo hi _ w0 (ht.below hb)
 have DK:Hid (∀w0,Below w.heap.size w w0->BT T lo hi=true->Calls Tryz.prog 111 #[DB (Cd T) lo hi (7-((m+1:Nat):Int)) x] w0 fun e w' =>e= .returned (.int .i64 (El (CD m T lo hi) T.kids.length:Nat))/\Below w0.heap.size w0 w'):=fun w0 hb hc=>Lu hm H n x T _ lo hi w0 (ht.below hb) (GL hc).1.1 (GL hc).1.2 (GL hc).2
 have hab:¬(7<=7-((m+1:Nat):Int)):=by omega
 have hab1:decide (7<=7-((m+1:Nat):Int))=false:=decide_eq_false hab
 have TD:Hid (∀kd w0,Calls Tryz.prog 107 #[OZ kd lo hi (7-((m+1:Nat):Int))] w0 fun e w' =>e= .returned (.bool false)/\Below w0.heap.size w0 w'):=fun kd w0=>by
  have:=Ki kd lo hi (7-((m+1:Nat):Int)) w0
  rw[hab1] at this
  exact this
 clear hab hab1;have D1:Hid (T.leaf=true->AG (m+1) T lo hi=if Bx T lo hi=true then 1 else 0):=Dg
 have D2:Hid (T.leaf=false->BK T lo hi=false->AG (m+1) T lo hi=0):=J4
 have D3:Hid (T.leaf=false->BK T lo hi=true->AG (m+1) T lo hi=El (CD m T lo hi) T.kids.length):=Dv
 generalize AG (m+1) T lo hi=R at *
 generalize (7-((m+1:Nat):Int))=ab at *
 obtain⟨lf,p,c,k,b⟩:=x
 have B0:Hid _:=Cb w (.cells #[.int .i64 (Cd T), .int .i64 lo, .int .i64 hi, .int .i64 ab, .bool lf,p,c,k,b] 108)
 have S0:Hid (Ct 108 _ w.heap.size _):=Ct.start 108 w #[.int .i64 (Cd T), .int .i64 lo, .int .i64 hi, .int .i64 ab, .bool lf,p,c,k,b]
 show Calls Tryz.prog 84 #[.agg #[.int .i64 (Cd T), .int .i64 lo, .int .i64 hi, .int .i64 ab, .bool lf,p,c,k,b]] w _
 have K:(T.leaf=true/\(T.cuts.length=0/\T.kids.length=0/\T.buf.length=0)/\Cd T=1)∨(T.leaf=true/\¬(T.cuts.length=0/\T.kids.length=0/\T.buf.length=0)/\Cd T=0)∨(T.leaf=false/\T.pairs.length=0/\Cd T=2)∨(T.leaf=false/\¬T.pairs.length=0/\Cd T=0):=by
  cases hlf:T.leaf
  ·by_cases hp:T.pairs.length=0
   ·exact Or.inr (Or.inr (Or.inl ⟨rfl,hp,Mh hlf hp⟩))
   ·exact Or.inr (Or.inr (Or.inr ⟨rfl,hp,IL hlf hp⟩))
  ·by_cases hp:T.cuts.length=0/\T.kids.length=0/\T.buf.length=0
   ·exact Or.inl ⟨rfl,hp,Lx hlf hp⟩
   ·exact Or.inr (Or.inl ⟨rfl,hp,IF hlf hp⟩)
 clear ht H;rcases K with⟨hlf,hb,hkd⟩|⟨hlf,hb,hkd⟩|⟨hlf,hb,hkd⟩|⟨hlf,hb,hkd⟩
 ·have E:=D1.out hlf
  rw[R6 hb] at E
  rw[hkd] at PO B0 S0 ⊢
  clear D1 D2 D3 CO BO DK hb hlf hkd;generalize Ch T lo hi=PB at *
  cases PB with
  |false=>
   simp only[Bool.false_eq_true,if_false] at E
   subst E;go_enter Tryz.func84,Tryz.ntmps84
   go_wp2_with fail;refine Calls.mono (TD.out _ _) ?_
   rintro e w1 ⟨rfl,hb1⟩
   have B1:Hid (Below w.heap.size w w1):=Below.and B0.out hb1
   have S1:=hid (S0.out.step hb1)
   have k0:=S1.out.cells
   clear hb1;go_wp2_with fail;refine Calls.mono (PO.out _ B1.out) ?_
   rintro e w2 ⟨rfl,hb2⟩
   have B2:=hid (Below.and B1.out hb2)
   have j0:=(S1.out.step hb2).cells
   clear hb2;go_wp2;go_ret;exact⟨rfl,B2.out⟩
  |true=>
   simp only[if_true] at E
   subst E;go_enter Tryz.func84,Tryz.ntmps84
   go_wp2_with fail;refine Calls.mono (TD.out _ _) ?_
   rintro e w1 ⟨rfl,hb1⟩
   have B1:=hid (Below.and B0.out hb1)
   have S1:=hid (S0.out.step hb1)
   have k0:=S1.out.cells
   clear hb1;go_wp2_with fail;refine Calls.mono (PO.out _ B1.out) ?_
   rintro e w2 ⟨rfl,hb2⟩
   have B2:=hid (Below.and B1.out hb2)
   have j0:=(S1.out.step hb2).cells
   clear hb2;go_wp2;go_ret;exact⟨rfl,B2.out⟩
 ·have E:=D1.out hlf
  rw[Qm (by omega)] at E
  simp only[Bool.false_eq_true,if_false] at E
  subst E;rw[hkd] at B0 S0 ⊢
  clear D1 D2 D3 PO CO BO DK hb hlf hkd;go_enter Tryz.func84,Tryz.ntmps84
  go_wp2_with fail;refine Calls.mono (TD.out _ _) ?_
  rintro e w1 ⟨rfl,hb1⟩
  have B1:=hid (Below.and B0.out hb1)
  have S1:=hid (S0.out.step hb1)
  have k0:=S1.out.cells
  clear hb1;go_wp2;go_ret;exact⟨rfl,B1.out⟩
 ·have E2:=D2.out hlf
  have E3:=D3.out hlf
  rw[Sd hb] at E2 E3
  rw[hkd] at CO BO DK B0 S0 ⊢
  clear D1 D2 D3 PO hb hlf hkd;generalize El (CD m T lo hi) T.kids.length=Q at *
  generalize BT T lo hi=CB at *
  generalize Dx T lo hi=BB at *
  cases CB with
  |false=>
   have E:=E2 rfl
   subst E;clear E2 E3;go_enter Tryz.func84,Tryz.ntmps84
   go_wp2_with fail;refine Calls.mono (TD.out _ _) ?_
   rintro e w1 ⟨rfl,hb1⟩
   have B1:=hid (Below.and B0.out hb1)
   have S1:=hid (S0.out.step hb1)
   have k0:=S1.out.cells
   clear hb1;go_wp2_with fail;refine Calls.mono (CO.out _ B1.out) ?_
   rintro e w2 ⟨rfl,hb2⟩
   have B2:=hid (Below.and B1.out hb2)
   have j0:=(S1.out.step hb2).cells
   clear hb2;go_wp2;go_ret;exact⟨rfl,B2.out⟩
  |true=>
   cases BB with
   |false=>
    have E:=E2 rfl
    subst E;clear E2 E3;go_enter Tryz.func84,Tryz.ntmps84
    go_wp2_with fail;refine Calls.mono (TD.out _ _) ?_
    rintro e w1 ⟨rfl,hb1⟩
    have B1:=hid (Below.and B0.out hb1)
    have S1:=hid (S0.out.step hb1)
    have k0:=S1.out.cells
    clear hb1;go_wp2_with fail;refine Calls.mono (CO.out _ B1.out) ?_
    rintro e w2 ⟨rfl,hb2⟩
    have B2:=hid (Below.and B1.out hb2)
    have j0:=(S1.out.step hb2).cells
    clear hb2;go_wp2_with fail;refine Calls.mono (BO.out _ B2.out) ?_
    rintro e w3 ⟨rfl,hb3⟩
    have B3:=hid (Below.and B2.out hb3)
    clear hb3;go_wp2;go_ret;exact⟨rfl,B3.out⟩
   |true=>
    have E:=E3 rfl
    subst E;clear E2 E3;go_enter Tryz.func84,Tryz.ntmps84
    go_wp2_with fail;refine Calls.mono (TD.out _ _) ?_
    rintro e w1 ⟨rfl,hb1⟩
    have B1:=hid (Below.and B0.out hb1)
    have S1:=hid (S0.out.step hb1)
    have k0:=S1.out.cells
    clear hb1;go_wp2_with fail;refine Calls.mono (CO.out _ B1.out) ?_
    rintro e w2 ⟨rfl,hb2⟩
    have B2:=hid (Below.and B1.out hb2)
    have S2:=hid (S1.out.step hb2)
    have j0:=S2.out.cells
    clear hb2;go_wp2_with fail;refine Calls.mono (BO.out _ B2.out) ?_
    rintro e w3 ⟨rfl,hb3⟩
    have B3:=hid (Below.and B2.out hb3)
    have i0:=(S2.out.step hb3).cells
    clear hb3;go_wp2_with fail;refine Calls.mono (DK.out _ B3.out trivial) ?_
    rintro e w4 ⟨rfl,hb4⟩
    have B4:=hid (Below.and B3.out hb4)
    clear hb4;go_wp2;go_ret;exact⟨rfl,B4.out⟩
 ·have E:=D2.out hlf (Eu (NH hb))
  subst E;rw[hkd] at B0 S0 ⊢
  clear D1 D2 D3 PO CO BO DK hb hlf hkd;go_enter Tryz.func84,Tryz.ntmps84
  go_wp2_with fail;refine Calls.mono (TD.out _ _) ?_
  rintro e w1 ⟨rfl,hb1⟩
  have B1:=hid (Below.and B0.out hb1)
  have S1:=hid (S0.out.step hb1)
  have k0:=S1.out.cells
  clear hb1;go_wp2;go_ret;exact⟨rfl,B1.out⟩

theorem Sx:Mw 0:=by
 intro n x T lo hi w ht;have E:AG 0 T lo hi=0:=rfl
 rw[E]
 have TD:=hid (fun kd w0=>Ki kd lo hi 7 w0)
 obtain⟨lf,p,c,k,b⟩:=x
 have B0:Hid _:=Cb w (.cells #[.int .i64 (Cd T), .int .i64 lo, .int .i64 hi, .int .i64 7, .bool lf,p,c,k,b] 108)
 show Calls Tryz.prog 84 #[.agg #[.int .i64 (Cd T), .int .i64 lo, .int .i64 hi, .int .i64 7, .bool lf,p,c,k,b]] w _
 clear ht;go_enter Tryz.func84,Tryz.ntmps84
 go_wp2_with fail;refine Calls.mono (TD.out _ _) ?_
 rintro e w1 ⟨rfl,hb1⟩
 have B1:=hid (Below.and B0.out hb1)
 clear hb1;go_wp2;go_ret;exact⟨rfl,B1.out⟩

theorem Ns:∀m,m<=7->Mw m
 |0,_=>Sx
 |m+1,h=>WZ (by omega) (Ns m (by omega))
end
section
open Go.RowKit

theorem Jm (n:Nat) (x:TV) (T:Tr) (w:World) (ht:AH n w x T) :
  Calls Tryz.prog 63 #[x.val] w fun e w' =>e= .returned (.int .i64 (Aw T:Nat))/\Below w.heap.size w w' :=by
 have TT:=hid (ht)
 clear ht;obtain⟨lf,p,c,k,b⟩:=x
 have B0:Hid _:=F7 w #[.bool lf,p,c,k,b]
 have HR:=hid (fun w0 (hb:Below w.heap.size w w0)=>RQ n ⟨lf,p,c,k,b⟩ T w0 (TT.out.below hb))
 have HD:Hid (∀w0,Below w.heap.size w w0->Calls Tryz.prog 84 #[.agg #[.int .i64 (Cd T), .int .i64 0, .int .i64 1000, .int .i64 0, .bool lf,p,c,k,b]] w0 fun e w' =>e= .returned (.int .i64 (Aw T:Nat))/\Below w0.heap.size w0 w'):=fun w0 hb=>Ns 7 (by omega) n ⟨lf,p,c,k,b⟩ T 0 1000 w0 (TT.out.below hb)
 generalize Aw T=d at *
 generalize Cd T=kn at *
 show Calls Tryz.prog 63 #[.agg #[.bool lf,p,c,k,b]] w _
 go_enter Tryz.func63,Tryz.ntmps63
 go_wp2_with fail;refine Calls.mono (HR.out _ B0.out) ?_
 rintro e w1 ⟨rfl,hb1⟩
 have B1:Hid (Below w.heap.size w w1):=Below.and B0.out hb1
 clear hb1 B0;go_wp2_with fail;refine Calls.mono (HD.out _ B1.out) ?_
 rintro e w2 ⟨rfl,hb2⟩
 have B2:=hid (Below.and B1.out hb2)
 clear hb2 B1;go_wp2;go_ret;exact⟨rfl,B2.out⟩

theorem Ge (n:Nat) (x:TV) (T:Tr) (w:World) (ht:AH n w x T) :
  Calls Tryz.prog 45 #[x.val] w fun e w' =>e= .returned (.bool (okT T))/\Below w.heap.size w w' :=by
 have TT:=hid (ht)
 clear ht;obtain⟨lf,p,c,k,b⟩:=x
 have B0:Hid _:=F7 w #[.bool lf,p,c,k,b]
 have HC:=Jm n ⟨lf,p,c,k,b⟩ T _ (TT.out.below B0.out)
 have HC' :Hid _:=HC
 clear HC;show Calls Tryz.prog 45 #[.agg #[.bool lf,p,c,k,b]] w _
 unfold okT;generalize Aw T=d at *
 go_enter Tryz.func45,Tryz.ntmps45
 go_wp2_with fail;refine Calls.mono HC'.out ?_
 rintro e w1 ⟨rfl,hb1⟩
 have B1:=hid (Below.and B0.out hb1)
 clear hb1 B0;go_wp2;go_ret;exact⟨rfl,B1.out⟩
end
section
open Go.RowKit

def Fa (l:List Int) (k:Int):Nat->Nat
 |0=>0
 |n+1=>Fa l k n+(if iAt l n<=k then 1 else 0)
theorem Tt (l:List Int) (k:Int):∀n,Fa l k n<=n
 |0=>Nat.le_refl _
 |n+1=>by
  have:=Tt l k n
  rw[Fa]
  split<;>omega
theorem QD {l:List Int} {k:Int} {n:Nat} (h:iAt l n<=k):Fa l k (n+1)=Fa l k n+1:=by rw[Fa,if_pos h]
theorem Tu {l:List Int} {k:Int} {n:Nat} (h:¬iAt l n<=k):Fa l k (n+1)=Fa l k n:=by rw[Fa,if_neg h,Nat.add_zero]

theorem JY (v:Value) (l:List Int) (x0:Int) (w:World) (h:Row w v l.length (Ac l)) :
  Calls Tryz.prog 99 #[v, .int .i64 x0] w fun e w' =>e= .returned (.int .i64 (Fa l x0 l.length:Nat))/\Below w.heap.size w w' :=by
 obtain⟨a2,b2,off2,q2,rfl,hcap2,hmax2,ha2,cc⟩:=h.ints
 unfold maxLen at hmax2;have CL:Hid (∀n,Fa l x0 n<=n):=Tt l x0
 have C1:Hid (∀n,iAt l n<=x0->Fa l x0 (n+1)=Fa l x0 n+1):=fun n=>QD
 have C2:Hid (∀n,¬iAt l n<=x0->Fa l x0 (n+1)=Fa l x0 n):=fun n=>Tu
 have C0:Hid (Fa l x0 0=0):=rfl
 generalize Fa l x0=f at *
 clear h;generalize l.length=n2 at *
 go_enter Tryz.func99,Tryz.ntmps99
 go_wp2;go_loopw [5,10] (fun at' i wr=>∃k z:Nat,k<=n2/\i= .int .i64 k/\at' = .int .i64 z/\z<=k/\Hid (z=f k)/\wr=w)
  (fun _ i _=>n2-(intOf i).toNat)
 case atStart=>exact⟨0,0,Nat.zero_le _,rfl,rfl,Nat.le_refl _,C0.out.symm,rfl⟩
 case round=>
  obtain⟨k,z,hkl,rfl,rfl,hz,ZE,rfl⟩:=hrel
  by_cases hlt:k<n2
  ·have hal:=ha2 (by omega)
   subst hal;have d0:=cc k hlt
   clear cc ha2;by_cases hq:iAt l k<=x0
   ·have E:Hid (z+1=f (k+1)):=by
     show _=_
     rw[C1.out k hq,ZE.out]
    go_wp2;go_roundw
    case rel=>exact⟨k+1,z+1,by omega,by go_num,by go_num,by omega,E,trivial⟩
    case measure=>simp[intOf];omega
   ·have E:Hid (z=f (k+1)):=by
     show _=_
     rw[C2.out k (by omega),ZE.out]
    go_wp2;go_roundw
    case rel=>exact⟨k+1,z,by omega,by go_num,rfl,by omega,E,trivial⟩
    case measure=>simp[intOf];omega
  ·have hkk:k=n2:=by omega
   have E:Hid (f n2=z):=by
    show _=_
    rw[ZE.out,hkk]
   clear cc ha2 hkk;go_wp2;go_ret;exact⟨Bd (by rw[E.out]),Below.refl _ _⟩

theorem Om {l:List Int} {k:Int} (h:∀i j,i<j->j<l.length->iAt l i<iAt l j):Fa l k l.length=AJ l k:=by
 have hp:=GU l k
 have key:∀n,n<=l.length->Fa l k n=min n (AJ l k):=by
  have hyes:∀i,i<AJ l k->iAt l i<=k:=by
   clear h hp;intro i hi;induction l generalizing i with
   |nil=>simp[AJ] at hi
   |cons a l ih=>
    by_cases ha:a<=k
    ·cases i with
     |zero=>simpa[iAt] using ha
     |succ i=>
      have:i<AJ l k:=by
       simp only[AJ] at hi ⊢
       rw[List.takeWhile_cons_of_pos (by simpa using ha),List.length_cons] at hi
       omega
      simpa[iAt] using ih i this
    ·simp[AJ,ha] at hi
  have hno:AJ l k<l.length->¬iAt l (AJ l k)<=k:=by
   clear h hp hyes;induction l with
   |nil=>intro hl;simp at hl
   |cons a l ih=>
    intro hl;by_cases ha:a<=k
    ·have e:AJ (a::l) k=AJ l k+1:=by
      simp only[AJ]
      rw[List.takeWhile_cons_of_pos (by simpa using ha),List.length_cons]
     rw[e] at hl ⊢
     simpa[iAt] using ih (by simpa using hl)
    ·have e:AJ (a::l) k=0:=by simp[AJ,ha]
     rw[e]
     simpa[iAt] using ha
  intro n;induction n with
  |zero=>intro _;simp[Fa]
  |succ n ih=>
   intro hn;by_cases hc:n<AJ l k
   ·rw[QD (hyes n hc),ih (by omega)];omega
   ·have hno2:¬iAt l n<=k:=by
     have h0:=hno (by omega)
     by_cases he:n=AJ l k
     ·rw[he];exact h0
     ·have:=h (AJ l k) n (by omega) (by omega)
      omega
    rw[Tu hno2,ih (by omega)];omega
 rw[key _ (Nat.le_refl _)]
 omega

theorem We {T:Tr} {lo hi:Int} (h:Fr T lo hi=true):∀i j,i<j->j<T.cuts.length->iAt T.cuts i<iAt T.cuts j:=by
 intro i j hij hj;induction j with
 |zero=>omega
 |succ j ih=>
  have h1:=Hm h hj
  rw[Hl] at h1
  have h2:=Ew.1 h1
  by_cases he:i=j
  ·subst he;omega
  ·have:=ih (by omega) (by omega);omega
end
section
theorem Je {p:Int × Int} {l:PL} {k v:Int} (h:p.1<k):Cc (p::l) k v=p::Cc l k v:=by
 simp[Cc,h,show ¬k<p.1 by omega]
theorem Jh {p:Int × Int} {l:PL} {k v:Int} (hg:∀q∈l,p.1<q.1) (h:p.1=k):Cc (p::l) k v=(k,v)::l:=by
 obtain⟨f1,f2,_⟩:=Fm (k:=k) (fun q hq=>by have:=hg q hq;omega)
 simp[Cc,show ¬p.1<k by omega,show ¬k<p.1 by omega,f1,f2]
theorem Js {p:Int × Int} {l:PL} {k v:Int} (hg:∀q∈l,p.1<q.1) (h:k<p.1):Cc (p::l) k v=(k,v)::p::l:=by
 obtain⟨f1,f2,_⟩:=Fm (k:=k) (fun q hq=>by have:=hg q hq;omega)
 simp[Cc,show ¬p.1<k by omega,h,f1,f2]

theorem Cv {l:PL} (h:Asc l) {j k v:Int} (hj:j≠k):AA (Cc l k v) j=AA l j:=by
 induction l with
 |nil=>simp[Cc,AA,Ne.symm hj]
 |cons p l ih=>
  obtain⟨h1,h2⟩:=h.cons
  by_cases hlt:p.1<k
  ·rw[Je hlt,AA,AA,ih h2]
  ·by_cases he:p.1=k
   ·rw[Jh h1 he,AA,AA,if_neg (by simpa using Ne.symm hj),if_neg (by omega)]
   ·rw[Js h1 (by omega),AA,if_neg (by simpa using Ne.symm hj)]
theorem Dm {l:PL} (h:Asc l) (k v:Int):AA (Cc l k v) k=(v,true):=by
 induction l with
 |nil=>simp[Cc,AA]
 |cons p l ih=>
  obtain⟨h1,h2⟩:=h.cons
  by_cases hlt:p.1<k
  ·rw[Je hlt,AA,if_neg (by omega),ih h2]
  ·by_cases he:p.1=k
   ·rw[Jh h1 he,AA,if_pos rfl]
   ·rw[Js h1 (by omega),AA,if_pos rfl]
theorem K8 (l:PL) {j k:Int} (hj:j≠k):AA (Dl l k) j=AA l j:=by
 induction l with
 |nil=>rfl
 |cons p l ih=>
  by_cases he:p.1=k
  ·rw[Dl,List.filter_cons_of_neg (by simp[he]),AA,if_neg (by omega)];exact ih
  ·rw[Dl,List.filter_cons_of_pos (by simp[he]),AA,AA]
   have:AA (List.filter (fun p=>decide (p.1≠k)) l) j=AA l j:=ih
   rw[this]
theorem Mf (l:PL) (k:Int):AA (Dl l k) k=(0,false):=by
 induction l with
 |nil=>rfl
 |cons p l ih=>
  by_cases he:p.1=k
  ·rw[Dl,List.filter_cons_of_neg (by simp[he])];exact ih
  ·rw[Dl,List.filter_cons_of_pos (by simp[he]),AA,if_neg he];exact ih
theorem UZ {l:PL} {o k v j:Int} (hj:j≠k):AA (doL l (o,k,v)) j=AA l j:=by
 unfold doL;split
 ·rename_i h1
  have hA:=((Ez l).1 h1.1).1
  unfold doP;simp only
  split
  ·exact Cv hA hj
  ·split
   ·exact K8 l hj
   ·split
    ·exact Cv hA hj
    ·rfl
 ·rfl
end
section
def ofK (ms:ML) (k:Int):ML:=ms.filter fun m=>decide (m.2.1=k)
theorem LW (a b:ML) (k:Int):ofK (a++b) k=ofK a k++ofK b k:=by simp[ofK]
def Qo (T:Tr) (k:Int):Tr:=Bb T (AJ T.cuts k)
def Rl:Nat->Tr->Int->Tr
 |0,T,_=>T
 |n+1,T,k=>if T.leaf=true then T else Rl n (Qo T k) k
def NQ:Nat->Tr->Int->ML
 |0,_,_=>[]
 |n+1,T,k=>if T.leaf=true then [] else NQ n (Qo T k) k++ofK T.buf k
def Ul (x:Int × Bool) (m:Int × Int × Int):Int × Bool:=
 if AO m.1 m.2.1 m.2.2=true then (if m.1=1 then (m.2.2,true) else if m.1=2 then (0,false) else if m.1=3 then (Bh (x.1+m.2.2),true) else x) else x
def Fu (x:Int × Bool) (ms:ML):Int × Bool:=ms.foldl Ul x
theorem Hz (x:Int × Bool) (a b:ML):Fu x (a++b)=Fu (Fu x a) b:=by simp[Fu,List.foldl_append]

theorem Nr {l:PL} (h:CY l) (o k v:Int):AA (doL l (o,k,v)) k=Ul (AA l k) (o,k,v):=by
 have hm:Bf l=true:=(Ez l).2 h
 unfold doL Ul;by_cases hk:AO o k v=true
 ·simp only[hm,hk,and_self,if_true]
  unfold doP;simp only
  split
  ·exact Dm h.1 k v
  ·split
   ·exact Mf l k
   ·split
    ·exact Dm h.1 k _
    ·rfl
 ·simp[hk]
theorem JT {l:PL} (h:CY l) (ms:ML) (k:Int):AA (Cg l ms) k=Fu (AA l k) (ofK ms k):=by
 induction ms generalizing l with
 |nil=>rfl
 |cons m ms ih=>
  obtain⟨o,j,v⟩:=m
  have e:Cg l ((o,j,v)::ms)=Cg (doL l (o,j,v)) ms:=rfl
  rw[e,ih (Ro h _)]
  by_cases hj:j=k
  ·subst hj;rw[Nr h]
   simp[ofK,Fu]
  ·rw[UZ (Ne.symm hj)]
   simp[ofK,hj]

def JG (n:Nat) (T:Tr) (k:Int):Int × Bool:=Fu (AA (Rl n T k).pairs k) (NQ n T k)

def Y7 (l:PL) (k:Int):PL:=if (AA l k).2=true then [(k,(AA l k).1)] else []
theorem Bl {m:Nat} {T:Tr} {lo hi:Int} (h:AG (m+1) T lo hi≠0) (hl:T.leaf=true):Bx T lo hi=true:=by
 rw[Dg hl] at h
 split at h
 ·assumption
 ·exact absurd rfl h
theorem Bj {m:Nat} {T:Tr} {lo hi:Int} (h:AG (m+1) T lo hi≠0) (hl:T.leaf=false):BK T lo hi=true/\∀i,i<T.kids.length->AG m (Bb T i) (Dw T lo i) (toT T hi i)≠0:=by
 cases hf:BK T lo hi
 ·rw[J4 hl hf] at h;exact absurd rfl h
 ·refine⟨rfl,fun i hi0 h0=> ?_⟩
  rw[Dv hl hf] at h
  exact h (Hg (d:=CD m T lo hi) hi0 h0)
theorem Bv {T:Tr} {lo hi:Int} (h:BK T lo hi=true):T.pairs=[]/\(2<=T.kids.length/\T.kids.length<=4)/\T.cuts.length+1=T.kids.length/\T.buf.length<=6/\Hi T lo hi=true/\Fr T lo hi=true:=by
 simp only[BK,En,Bool.and_eq_true,decide_eq_true_eq] at h
 obtain⟨⟨h1,h2,h3,h4⟩,h5,h6⟩:=h
 exact⟨List.length_eq_zero_iff.1 h1,h2,h3,h4,h5,h6⟩
theorem Cq {T:Tr} {lo hi:Int} (h:Bx T lo hi=true):CY T.pairs/\T.pairs.length<=4/\T.kids=[]/\T.buf=[]/\T.cuts=[]/\∀p∈T.pairs,lo<=p.1/\p.1<hi:=by
 simp only[Bx,Bool.and_eq_true,decide_eq_true_eq] at h
 obtain⟨h1,h2,h3,h4⟩:=h
 refine⟨(Ez _).1 h1,h2,List.length_eq_zero_iff.1 (by omega),List.length_eq_zero_iff.1 (by omega),List.length_eq_zero_iff.1 (by omega),fun p hp=> ?_⟩
 obtain⟨i,hi0,rfl⟩:=List.getElem_of_mem hp
 have h5:=Ew.1 (Hm h4 hi0)
 simp only[kOf,List.getD,List.getElem?_eq_getElem hi0,Option.getD_some] at h5
 omega
theorem Gz {T:Tr} {lo hi:Int} (h:Hi T lo hi=true):∀m∈T.buf,AO m.1 m.2.1 m.2.2=true/\lo<=m.2.1/\m.2.1<hi:=by
 intro m hm;obtain⟨i,hi0,rfl⟩:=List.getElem_of_mem hm
 have h5:=Hm h hi0
 simp only[Ff,Bool.and_eq_true] at h5
 have h6:=Ew.1 h5.2.2
 rw[DW _ _ hi0]
 exact⟨h5.1,h6.1,by show mK T.buf i<hi;omega⟩
theorem GR {T:Tr} (h:okT T=true):AG 7 T 0 1000≠0:=by
 have h2:0<AG 7 T 0 1000:=of_decide_eq_true h
 exact Nat.pos_iff_ne_zero.1 h2
theorem Ub {T:Tr} {lo hi:Int} (h:BK T lo hi=true) (k:Int):AJ T.cuts k<T.kids.length:=by
 have:=(Bv h).2.2.1
 have:=GU T.cuts k
 omega
end
end Go.Proofs.YtebglpllkjgjbaaGreat
