/-
  Contracts of the program's chapter 2: depthByKids, depth.
  Contracts of the program's chapter 2: TreeDepth, TreeOk, countAll, TreeCount, kidAt, KidOf.
  Contracts of the program's chapter 2: kidAt, KidOf.
  What a message makes of a map, key by key; plain mathematics.
  What chapter 3 says of trees, as plain functions: what is pending of a key, what a key has; plain mathematics.
-/
import Derived.Test.YtadmomgdacfgpaaGreatOfBuilt6
import Derived.Test.YtadmomgdacfgpaaGreatOfBuilt2
namespace Go.Proofs.YtadmomgdacfgpaaGreat
set_option maxRecDepth 100000
set_option maxHeartbeats 8000000
section
open Go.RowKit

def LY (m:Nat):Prop:=∀(n:Nat) (x:TV) (T:Tr) (lo hi:Int) (w:World),AA n w x T→
  Calls Tryz.prog 26 #[Dz (Cc T) lo hi (7-(m:Int)) x] w fun e w' =>e= .returned (.int .i64 (AK m T lo hi:Nat))/\Below w.heap.size w w'

theorem MD {m:Nat} (hm:m<=6) (H:LY m) (n:Nat) (x:TV) (T:Tr) (kd lo hi:Int) (w:World) (ht:AA (n+1) w x T) (hk2:2<=T.kids.length) (hk4:T.kids.length<=4) (hcl:T.cuts.length+1=T.kids.length) :
  Calls Tryz.prog 57 #[Dz kd lo hi (7-((m+1:Nat):Int)) x] w fun e w' =>e= .returned (.int .i64 (Eh (Cw m T lo hi) T.kids.length:Nat))/\Below w.heap.size w w' :=by
 have KD:Hid (∀(i:Nat) (w0:World),i<T.kids.length->Below w.heap.size w w0->Calls Tryz.prog 93 #[Dz kd lo hi (7-((m+1:Nat):Int)) x, .int .i64 i] w0 fun e w' =>∃y:TV,e= .returned (Dz (Cc (AQ T i)) (Dl T lo i) (toT T hi i) (7-(m:Int)) y)/\AA n w0 y (AQ T i)/\Below w0.heap.size w0 w'):=by
  intro i w0 hik hb;have:=Wz n x T kd lo hi (7-((m+1:Nat):Int)) i w0 (ht.below hb) hik hcl hk4 (by omega) (by omega)
  rw[show(7-((m+1:Nat):Int))+1=7-(m:Int) by omega] at this
  exact this
 have DP:Hid (∀(i:Nat) (y:TV) (w0:World),AA n w0 y (AQ T i)->Calls Tryz.prog 26 #[Dz (Cc (AQ T i)) (Dl T lo i) (toT T hi i) (7-(m:Int)) y] w0 fun e w' =>e= .returned (.int .i64 (Cw m T lo hi i:Nat))/\Below w0.heap.size w0 w'):=fun i y w0 h=>H n y (AQ T i) _ _ w0 h
 obtain⟨a1,a2,a3,a4,q1,q2,q3,q4,rfl⟩:=ht.shape
 have KL:Hid (∀i,Cw m T lo hi i<=7):=fun i=>by have:=Gy m (AQ T i) (Dl T lo i) (toT T hi i);show AK m (AQ T i) (Dl T lo i) (toT T hi i)<=7;omega
 have Z0:Hid (∀i,i<T.kids.length->Cw m T lo hi i=0->Eh (Cw m T lo hi) T.kids.length=0):=fun i h1 h2=>GP h1 h2
 have Z1:Hid (∀i,i<T.kids.length->Cw m T lo hi i≠Cw m T lo hi 0->Eh (Cw m T lo hi) T.kids.length=0):=fun i h1 h2=>GL h1 h2
 have Y1:Hid (Cw m T lo hi 0≠0->(∀i,i<T.kids.length->Cw m T lo hi i=Cw m T lo hi 0)->Eh (Cw m T lo hi) T.kids.length=Cw m T lo hi 0+1):=FN
 generalize Eh (Cw m T lo hi) T.kids.length=R at *
 generalize Cw m T lo hi=f at *
 clear ht H;generalize T.pairs.length=n1 at *
 generalize T.cuts.length=n2 at *
 generalize T.kids.length=n3 at *
 generalize T.buf.length=n4 at *
 have ABL:Hid ((7-((m+1:Nat):Int))=(7-((m+1:Nat):Int))):=rfl
 clear ABL;generalize (7-((m+1:Nat):Int))=ab at *
 generalize (7-(m:Int))=ab1 at *
 show Calls Tryz.prog 57 #[.agg #[.int .i64 kd, .int .i64 lo, .int .i64 hi, .int .i64 ab, .bool T.leaf, .slice a1 n1 q1, .slice a2 n2 q2, .slice a3 n3 q3, .slice a4 n4 q4]] w _
 have B0:Hid _:=Ce w (.cells #[.int .i64 kd, .int .i64 lo, .int .i64 hi, .int .i64 ab, .bool T.leaf, .slice a1 n1 q1, .slice a2 n2 q2, .slice a3 n3 q3, .slice a4 n4 q4] 57)
 have S0:Hid (Cp 57 _ w.heap.size _):=Cp.start 57 w #[.int .i64 kd, .int .i64 lo, .int .i64 hi, .int .i64 ab, .bool T.leaf, .slice a1 n1 q1, .slice a2 n2 q2, .slice a3 n3 q3, .slice a4 n4 q4]
 go_enter Tryz.func57,Tryz.ntmps57
 go_wp2_with fail;refine Calls.mono (KD.out 0 _ (by omega) B0.out) ?_
 rintro e w1 ⟨y,rfl,ty,hb1⟩
 have B1:Hid (Below w.heap.size w w1):=Below.and B0.out hb1
 have S1:=hid (S0.out.step hb1)
 have TY:=hid (ty.below hb1)
 clear B0 S0 hb1 ty;go_wp2_with fail;refine Calls.mono (DP.out 0 y w1 TY.out) ?_
 rintro e w2 ⟨rfl,hb2⟩
 have B2:=hid (Below.and B1.out hb2)
 have S2:=hid (S1.out.step hb2)
 have k0:=S2.out.cells
 have hf0:=KL.out 0
 clear B1 S1 hb2 TY;by_cases hz:f 0=0
 ·have E:=Z0.out 0 (by omega) hz
  subst E;rw[hz]
  go_wp2;go_ret;exact⟨rfl,B2.out⟩
 have hz1:((f 0:Int)==0)=false:=by rw[beq_eq_false_iff_ne];omega
 have HZ:Hid (f 0≠0):=hz
 go_wp2;go_loopw [4] (fun i wr=>∃k' :Nat,1<=k' ∧k' <=n3/\i= .int .i64 k' ∧Hid (∀i,i<k' ->f i=f 0)/\Hid (Below w.heap.size w wr)/\Hid (Cp 57 wr w.heap.size #[.int .i64 kd, .int .i64 lo, .int .i64 hi, .int .i64 ab, .bool T.leaf, .slice a1 n1 q1, .slice a2 n2 q2, .slice a3 n3 q3, .slice a4 n4 q4]))
  (fun i _=>n3-(intOf i).toNat)
 case atStart=>exact⟨1,by omega,by omega,rfl,fun i hi=>by rw[show i=0 by omega],B2,S2⟩
 case round=>
  clear B2 S2 k0;obtain⟨k',hk1,hkl,rfl,ALL,BB,SS⟩:=hrel
  have k0:=SS.out.cells
  by_cases hlt:k' < n3
  ·have hfk:=KL.out k'
   go_wp2_with fail;refine Calls.mono (KD.out k' _ hlt BB.out) ?_
   rintro e w3 ⟨y3,rfl,ty3,hb3⟩
   have B3:=hid (Below.and BB.out hb3)
   have S3:=hid (SS.out.step hb3)
   have TY:Hid (AA n w3 y3 (AQ T k')):=ty3.below hb3
   clear hb3 ty3;go_wp2_with fail;refine Calls.mono (DP.out k' y3 w3 TY.out) ?_
   rintro e w4 ⟨rfl,hb4⟩
   have B4:Hid (Below w.heap.size w w4):=Below.and B3.out hb4
   have S4:Hid (Cp 57 w4 w.heap.size #[.int .i64 kd, .int .i64 lo, .int .i64 hi, .int .i64 ab, .bool T.leaf, .slice a1 n1 q1, .slice a2 n2 q2, .slice a3 n3 q3, .slice a4 n4 q4]):=S3.out.step hb4
   clear hb4 TY S3 B3;by_cases he:f k' =f 0
   ·have he1:((f k' :Int) != (f 0:Int))=false:=by rw[bne_eq_false_iff_eq];omega
    have HE:Hid (f k' =f 0):=he
    clear he;go_wp2;go_roundw
    case rel=>exact⟨k' +1,by omega,by omega,by go_num,fun i hi=>if h:i<k' then ALL.out i h else by rw[show i=k' by omega];exact HE.out,B4,S4⟩
    case measure=>simp[intOf];omega
   ·have he1:((f k' :Int) != (f 0:Int))=true:=by rw[bne_iff_ne];omega
    have E:=Z1.out k' hlt he
    subst E;go_wp2;go_ret;exact⟨rfl,B4.out⟩
  ·have E:=Y1.out HZ.out (fun i hi=>ALL.out i (by omega))
   subst E;go_wp2;go_ret;exact⟨Bn (by omega),BB.out⟩

theorem RH {T:Tr} {lo hi:Int} (hb:T.cuts.length=0/\T.kids.length=0/\T.buf.length=0):Bw T lo hi=Cg T lo hi:=by
 rw[Bw,Cg,decide_eq_true (p:=T.cuts.length+T.kids.length+T.buf.length=0) (by omega)]
 cases Bh T.pairs<;>cases decide (T.pairs.length<=4)<;>rfl
theorem Rj {T:Tr} {lo hi:Int} (hb:T.pairs.length=0):BH T lo hi=(BK T lo hi&&DB T lo hi):=by
 rw[BH,Ei,BK,DB,decide_eq_true hb]
 cases decide (2<=T.kids.length/\T.kids.length<=4)<;>cases decide (T.cuts.length+1=T.kids.length)<;>cases decide (T.buf.length<=6)<;>cases GW T lo hi<;>cases Fp T lo hi<;>rfl
theorem Gu {T:Tr} {lo hi:Int} (h:BK T lo hi=true):(2<=T.kids.length/\T.kids.length<=4)/\T.cuts.length+1=T.kids.length:=by
 rw[BK] at h
 simp only[Bool.and_eq_true,decide_eq_true_eq] at h
 exact⟨h.1,h.2.1⟩

theorem VI {m:Nat} (hm:m<=6) (H:LY m):LY (m+1):=by
 intro n x T lo hi w ht
 cases n with
 |zero=>exact ht.elim
 |succ n=>
 have PO:Hid (∀w0,Below w.heap.size w w0->Calls Tryz.prog 54 #[Dz (Cc T) lo hi (7-((m+1:Nat):Int)) x] w0 fun e w' =>e= .returned (.bool (Cg T lo hi))/\Below w0.heap.size w0 w'):=fun w0 hb=>P5 (n+1) x T _ lo hi _ w0 (ht.below hb)
 have CO:Hid (∀w0,Below w.heap.size w w0->Calls Tryz.prog 55 #[Dz (Cc T) lo hi (7-((m+1:Nat):Int)) x] w0 fun e w' =>e= .returned (.bool (BK T lo hi))/\Below w0.heap.size w0 w'):=fun w0 hb=>Rv (n+1) x T _ lo hi _ w0 (ht.below hb)
 have BO:Hid (∀w0,Below w.heap.size w w0->Calls Tryz.prog 56 #[Dz (Cc T) lo hi (7-((m+1:Nat):Int)) x] w0 fun e w' =>e= .returned (.bool (DB T lo hi))/\Below w0.heap.size w0 w'):=fun w0 hb=>Tk (n+1) x T _ lo hi _ w0 (ht.below hb)
 have DK:Hid (∀w0,Below w.heap.size w w0->BK T lo hi=true->Calls Tryz.prog 57 #[Dz (Cc T) lo hi (7-((m+1:Nat):Int)) x] w0 fun e w' =>e= .returned (.int .i64 (Eh (Cw m T lo hi) T.kids.length:Nat))/\Below w0.heap.size w0 w'):=fun w0 hb hc=>MD hm H n x T _ lo hi w0 (ht.below hb) (Gu hc).1.1 (Gu hc).1.2 (Gu hc).2
 have hab:¬(7<=7-((m+1:Nat):Int)):=by omega
 have hab1:decide (7<=7-((m+1:Nat):Int))=false:=decide_eq_false hab
 have TD:Hid (∀kd w0,Calls Tryz.prog 53 #[Oi kd lo hi (7-((m+1:Nat):Int))] w0 fun e w' =>e= .returned (.bool false)/\Below w0.heap.size w0 w'):=fun kd w0=>by
  have:=Kb kd lo hi (7-((m+1:Nat):Int)) w0
  rw[hab1] at this
  exact this
 clear hab hab1;have D1:Hid (T.leaf=true->AK (m+1) T lo hi=if Bw T lo hi=true then 1 else 0):=Da
 have D2:Hid (T.leaf=false->BH T lo hi=false->AK (m+1) T lo hi=0):=JO
 have D3:Hid (T.leaf=false->BH T lo hi=true->AK (m+1) T lo hi=Eh (Cw m T lo hi) T.kids.length):=Dw
 generalize AK (m+1) T lo hi=R at *
 generalize (7-((m+1:Nat):Int))=ab at *
 obtain⟨lf,p,c,k,b⟩:=x
 have B0:Hid _:=Ce w (.cells #[.int .i64 (Cc T), .int .i64 lo, .int .i64 hi, .int .i64 ab, .bool lf,p,c,k,b] 57)
 have S0:Hid (Cp 57 _ w.heap.size _):=Cp.start 57 w #[.int .i64 (Cc T), .int .i64 lo, .int .i64 hi, .int .i64 ab, .bool lf,p,c,k,b]
 show Calls Tryz.prog 26 #[.agg #[.int .i64 (Cc T), .int .i64 lo, .int .i64 hi, .int .i64 ab, .bool lf,p,c,k,b]] w _
 have K:(T.leaf=true/\(T.cuts.length=0/\T.kids.length=0/\T.buf.length=0)/\Cc T=1)∨(T.leaf=true/\¬(T.cuts.length=0/\T.kids.length=0/\T.buf.length=0)/\Cc T=0)∨(T.leaf=false/\T.pairs.length=0/\Cc T=2)∨(T.leaf=false/\¬T.pairs.length=0/\Cc T=0):=by
  cases hlf:T.leaf
  ·by_cases hp:T.pairs.length=0
   ·exact Or.inr (Or.inr (Or.inl ⟨rfl,hp,Mp hlf hp⟩))
   ·exact Or.inr (Or.inr (Or.inr ⟨rfl,hp,Iz hlf hp⟩))
  ·by_cases hp:T.cuts.length=0/\T.kids.length=0/\T.buf.length=0
   ·exact Or.inl ⟨rfl,hp,Lx hlf hp⟩
   ·exact Or.inr (Or.inl ⟨rfl,hp,IE hlf hp⟩)
 clear ht H;rcases K with⟨hlf,hb,hkd⟩|⟨hlf,hb,hkd⟩|⟨hlf,hb,hkd⟩|⟨hlf,hb,hkd⟩
 ·have E:=D1.out hlf
  rw[RH hb] at E
  rw[hkd] at PO B0 S0 ⊢
  clear D1 D2 D3 CO BO DK hb hlf hkd;generalize Cg T lo hi=PB at *
  cases PB with
  |false=>
   simp only[Bool.false_eq_true,if_false] at E
   subst E;go_enter Tryz.func26,Tryz.ntmps26
   go_wp2_with fail;refine Calls.mono (TD.out _ _) ?_
   rintro e w1 ⟨rfl,hb1⟩
   have B1:Hid (Below w.heap.size w w1):=Below.and B0.out hb1
   have S1:=hid (S0.out.step hb1)
   have k0:=S1.out.cells
   clear hb1;go_wp2_with fail;refine Calls.mono (PO.out _ B1.out) ?_
   rintro e w2 ⟨rfl,hb2⟩
   have B2:=hid (Below.and B1.out hb2)
   have j0:=(S1.out.step hb2).cells
   clear hb2;go_wp2;go_ret;exact⟨rfl,B2.out⟩
  |true=>
   simp only[if_true] at E
   subst E;go_enter Tryz.func26,Tryz.ntmps26
   go_wp2_with fail;refine Calls.mono (TD.out _ _) ?_
   rintro e w1 ⟨rfl,hb1⟩
   have B1:=hid (Below.and B0.out hb1)
   have S1:=hid (S0.out.step hb1)
   have k0:=S1.out.cells
   clear hb1;go_wp2_with fail;refine Calls.mono (PO.out _ B1.out) ?_
   rintro e w2 ⟨rfl,hb2⟩
   have B2:=hid (Below.and B1.out hb2)
   have j0:=(S1.out.step hb2).cells
   clear hb2;go_wp2;go_ret;exact⟨rfl,B2.out⟩
 ·have E:=D1.out hlf
  rw[PU (by omega)] at E
  simp only[Bool.false_eq_true,if_false] at E
  subst E;rw[hkd] at B0 S0 ⊢
  clear D1 D2 D3 PO CO BO DK hb hlf hkd;go_enter Tryz.func26,Tryz.ntmps26
  go_wp2_with fail;refine Calls.mono (TD.out _ _) ?_
  rintro e w1 ⟨rfl,hb1⟩
  have B1:=hid (Below.and B0.out hb1)
  have S1:=hid (S0.out.step hb1)
  have k0:=S1.out.cells
  clear hb1;go_wp2;go_ret;exact⟨rfl,B1.out⟩
 ·have E2:=D2.out hlf
  have E3:=D3.out hlf
  rw[Rj hb] at E2 E3
  rw[hkd] at CO BO DK B0 S0 ⊢
  clear D1 D2 D3 PO hb hlf hkd;generalize Eh (Cw m T lo hi) T.kids.length=Q at *
  generalize BK T lo hi=CB at *
  generalize DB T lo hi=BB at *
  cases CB with
  |false=>
   have E:=E2 rfl
   subst E;clear E2 E3;go_enter Tryz.func26,Tryz.ntmps26
   go_wp2_with fail;refine Calls.mono (TD.out _ _) ?_
   rintro e w1 ⟨rfl,hb1⟩
   have B1:=hid (Below.and B0.out hb1)
   have S1:=hid (S0.out.step hb1)
   have k0:=S1.out.cells
   clear hb1;go_wp2_with fail;refine Calls.mono (CO.out _ B1.out) ?_
   rintro e w2 ⟨rfl,hb2⟩
   have B2:=hid (Below.and B1.out hb2)
   have j0:=(S1.out.step hb2).cells
   clear hb2;go_wp2;go_ret;exact⟨rfl,B2.out⟩
  |true=>
   cases BB with
   |false=>
    have E:=E2 rfl
    subst E;clear E2 E3;go_enter Tryz.func26,Tryz.ntmps26
    go_wp2_with fail;refine Calls.mono (TD.out _ _) ?_
    rintro e w1 ⟨rfl,hb1⟩
    have B1:=hid (Below.and B0.out hb1)
    have S1:=hid (S0.out.step hb1)
    have k0:=S1.out.cells
    clear hb1;go_wp2_with fail;refine Calls.mono (CO.out _ B1.out) ?_
    rintro e w2 ⟨rfl,hb2⟩
    have B2:=hid (Below.and B1.out hb2)
    have j0:=(S1.out.step hb2).cells
    clear hb2;go_wp2_with fail;refine Calls.mono (BO.out _ B2.out) ?_
    rintro e w3 ⟨rfl,hb3⟩
    have B3:=hid (Below.and B2.out hb3)
    clear hb3;go_wp2;go_ret;exact⟨rfl,B3.out⟩
   |true=>
    have E:=E3 rfl
    subst E;clear E2 E3;go_enter Tryz.func26,Tryz.ntmps26
    go_wp2_with fail;refine Calls.mono (TD.out _ _) ?_
    rintro e w1 ⟨rfl,hb1⟩
    have B1:=hid (Below.and B0.out hb1)
    have S1:=hid (S0.out.step hb1)
    have k0:=S1.out.cells
    clear hb1;go_wp2_with fail;refine Calls.mono (CO.out _ B1.out) ?_
    rintro e w2 ⟨rfl,hb2⟩
    have B2:=hid (Below.and B1.out hb2)
    have S2:=hid (S1.out.step hb2)
    have j0:=S2.out.cells
    clear hb2;go_wp2_with fail;refine Calls.mono (BO.out _ B2.out) ?_
    rintro e w3 ⟨rfl,hb3⟩
    have B3:=hid (Below.and B2.out hb3)
    have i0:=(S2.out.step hb3).cells
    clear hb3;go_wp2_with fail;refine Calls.mono (DK.out _ B3.out trivial) ?_
    rintro e w4 ⟨rfl,hb4⟩
    have B4:=hid (Below.and B3.out hb4)
    clear hb4;go_wp2;go_ret;exact⟨rfl,B4.out⟩
 ·have E:=D2.out hlf (En (Nt hb))
  subst E;rw[hkd] at B0 S0 ⊢
  clear D1 D2 D3 PO CO BO DK hb hlf hkd;go_enter Tryz.func26,Tryz.ntmps26
  go_wp2_with fail;refine Calls.mono (TD.out _ _) ?_
  rintro e w1 ⟨rfl,hb1⟩
  have B1:=hid (Below.and B0.out hb1)
  have S1:=hid (S0.out.step hb1)
  have k0:=S1.out.cells
  clear hb1;go_wp2;go_ret;exact⟨rfl,B1.out⟩

theorem Rl:LY 0:=by
 intro n x T lo hi w ht;have E:AK 0 T lo hi=0:=rfl
 rw[E]
 have TD:=hid (fun kd w0=>Kb kd lo hi 7 w0)
 obtain⟨lf,p,c,k,b⟩:=x
 have B0:Hid _:=Ce w (.cells #[.int .i64 (Cc T), .int .i64 lo, .int .i64 hi, .int .i64 7, .bool lf,p,c,k,b] 57)
 show Calls Tryz.prog 26 #[.agg #[.int .i64 (Cc T), .int .i64 lo, .int .i64 hi, .int .i64 7, .bool lf,p,c,k,b]] w _
 clear ht;go_enter Tryz.func26,Tryz.ntmps26
 go_wp2_with fail;refine Calls.mono (TD.out _ _) ?_
 rintro e w1 ⟨rfl,hb1⟩
 have B1:=hid (Below.and B0.out hb1)
 clear hb1;go_wp2;go_ret;exact⟨rfl,B1.out⟩

theorem NB:∀m,m<=7->LY m
 |0,_=>Rl
 |m+1,h=>VI (by omega) (NB m (by omega))
end
section
open Go.RowKit

theorem Jp (n:Nat) (x:TV) (T:Tr) (w:World) (ht:AA n w x T) :
  Calls Tryz.prog 8 #[x.val] w fun e w' =>e= .returned (.int .i64 (Av T:Nat))/\Below w.heap.size w w' :=by
 have TT:=hid (ht)
 clear ht;obtain⟨lf,p,c,k,b⟩:=x
 have B0:Hid _:=Fo w #[.bool lf,p,c,k,b]
 have HR:=hid (fun w0 (hb:Below w.heap.size w w0)=>Ry n ⟨lf,p,c,k,b⟩ T w0 (TT.out.below hb))
 have HD:Hid (∀w0,Below w.heap.size w w0->Calls Tryz.prog 26 #[.agg #[.int .i64 (Cc T), .int .i64 0, .int .i64 1000, .int .i64 0, .bool lf,p,c,k,b]] w0 fun e w' =>e= .returned (.int .i64 (Av T:Nat))/\Below w0.heap.size w0 w'):=fun w0 hb=>NB 7 (by omega) n ⟨lf,p,c,k,b⟩ T 0 1000 w0 (TT.out.below hb)
 generalize Av T=d at *
 generalize Cc T=kn at *
 show Calls Tryz.prog 8 #[.agg #[.bool lf,p,c,k,b]] w _
 go_enter Tryz.func8,Tryz.ntmps8
 go_wp2_with fail;refine Calls.mono (HR.out _ B0.out) ?_
 rintro e w1 ⟨rfl,hb1⟩
 have B1:Hid (Below w.heap.size w w1):=Below.and B0.out hb1
 clear hb1 B0;go_wp2_with fail;refine Calls.mono (HD.out _ B1.out) ?_
 rintro e w2 ⟨rfl,hb2⟩
 have B2:=hid (Below.and B1.out hb2)
 clear hb2 B1;go_wp2;go_ret;exact⟨rfl,B2.out⟩

theorem DU (n:Nat) (x:TV) (T:Tr) (w:World) (ht:AA n w x T) :
  Calls Tryz.prog 15 #[x.val] w fun e w' =>e= .returned (.bool (okT T))/\Below w.heap.size w w' :=by
 have TT:=hid (ht)
 clear ht;obtain⟨lf,p,c,k,b⟩:=x
 have B0:Hid _:=Fo w #[.bool lf,p,c,k,b]
 have HC:=Jp n ⟨lf,p,c,k,b⟩ T _ (TT.out.below B0.out)
 have HC' :Hid _:=HC
 clear HC;show Calls Tryz.prog 15 #[.agg #[.bool lf,p,c,k,b]] w _
 unfold okT;generalize Av T=d at *
 go_enter Tryz.func15,Tryz.ntmps15
 go_wp2_with fail;refine Calls.mono HC'.out ?_
 rintro e w1 ⟨rfl,hb1⟩
 have B1:=hid (Below.and B0.out hb1)
 clear hb1 B0;go_wp2;go_ret;exact⟨rfl,B1.out⟩
end
section
open Go.RowKit

def EP (l:List Int) (k:Int):Nat->Nat
 |0=>0
 |n+1=>EP l k n+(if iAt l n<=k then 1 else 0)
theorem Sq (l:List Int) (k:Int):∀n,EP l k n<=n
 |0=>Nat.le_refl _
 |n+1=>by
  have:=Sq l k n
  rw[EP]
  split<;>omega
theorem Qb {l:List Int} {k:Int} {n:Nat} (h:iAt l n<=k):EP l k (n+1)=EP l k n+1:=by rw[EP,if_pos h]
theorem SJ {l:List Int} {k:Int} {n:Nat} (h:¬iAt l n<=k):EP l k (n+1)=EP l k n:=by rw[EP,if_neg h,Nat.add_zero]

theorem H8 (v:Value) (l:List Int) (x0:Int) (w:World) (h:Row w v l.length (Ad l)) :
  Calls Tryz.prog 89 #[v, .int .i64 x0] w fun e w' =>e= .returned (.int .i64 (EP l x0 l.length:Nat))/\Below w.heap.size w w' :=by
 obtain⟨a2,b2,off2,q2,rfl,hcap2,hmax2,ha2,cc⟩:=h.ints
 unfold maxLen at hmax2;have CL:Hid (∀n,EP l x0 n<=n):=Sq l x0
 have C1:Hid (∀n,iAt l n<=x0->EP l x0 (n+1)=EP l x0 n+1):=fun n=>Qb
 have C2:Hid (∀n,¬iAt l n<=x0->EP l x0 (n+1)=EP l x0 n):=fun n=>SJ
 have C0:Hid (EP l x0 0=0):=rfl
 generalize EP l x0=f at *
 clear h;generalize l.length=n2 at *
 go_enter Tryz.func89,Tryz.ntmps89
 go_wp2;go_loopw [5,10] (fun at' i wr=>∃k z:Nat,k<=n2/\i= .int .i64 k/\at' = .int .i64 z/\z<=k/\Hid (z=f k)/\wr=w)
  (fun _ i _=>n2-(intOf i).toNat)
 case atStart=>exact⟨0,0,Nat.zero_le _,rfl,rfl,Nat.le_refl _,C0.out.symm,rfl⟩
 case round=>
  obtain⟨k,z,hkl,rfl,rfl,hz,ZE,rfl⟩:=hrel
  by_cases hlt:k<n2
  ·have hal:=ha2 (by omega)
   subst hal;have d0:=cc k hlt
   clear cc ha2;by_cases hq:iAt l k<=x0
   ·have E:Hid (z+1=f (k+1)):=by
     show _=_
     rw[C1.out k hq,ZE.out]
    go_wp2;go_roundw
    case rel=>exact⟨k+1,z+1,by omega,by go_num,by go_num,by omega,E,trivial⟩
    case measure=>simp[intOf];omega
   ·have E:Hid (z=f (k+1)):=by
     show _=_
     rw[C2.out k (by omega),ZE.out]
    go_wp2;go_roundw
    case rel=>exact⟨k+1,z,by omega,by go_num,rfl,by omega,E,trivial⟩
    case measure=>simp[intOf];omega
  ·have hkk:k=n2:=by omega
   have E:Hid (f n2=z):=by
    show _=_
    rw[ZE.out,hkk]
   clear cc ha2 hkk;go_wp2;go_ret;exact⟨Bn (by rw[E.out]),Below.refl _ _⟩

theorem JH {l:List Int} {k:Int} (h:∀i j,i<j->j<l.length->iAt l i<iAt l j):EP l k l.length=Ar l k:=by
 have hp:=GH l k
 have key:∀n,n<=l.length->EP l k n=min n (Ar l k):=by
  have hyes:∀i,i<Ar l k->iAt l i<=k:=by
   clear h hp;intro i hi;induction l generalizing i with
   |nil=>simp[Ar] at hi
   |cons a l ih=>
    by_cases ha:a<=k
    ·cases i with
     |zero=>simpa[iAt] using ha
     |succ i=>
      have:i<Ar l k:=by
       simp only[Ar] at hi ⊢
       rw[List.takeWhile_cons_of_pos (by simpa using ha),List.length_cons] at hi
       omega
      simpa[iAt] using ih i this
    ·simp[Ar,ha] at hi
  have hno:Ar l k<l.length->¬iAt l (Ar l k)<=k:=by
   clear h hp hyes;induction l with
   |nil=>intro hl;simp at hl
   |cons a l ih=>
    intro hl;by_cases ha:a<=k
    ·have e:Ar (a::l) k=Ar l k+1:=by
      simp only[Ar]
      rw[List.takeWhile_cons_of_pos (by simpa using ha),List.length_cons]
     rw[e] at hl ⊢
     simpa[iAt] using ih (by simpa using hl)
    ·have e:Ar (a::l) k=0:=by simp[Ar,ha]
     rw[e]
     simpa[iAt] using ha
  intro n;induction n with
  |zero=>intro _;simp[EP]
  |succ n ih=>
   intro hn;by_cases hc:n<Ar l k
   ·rw[Qb (hyes n hc),ih (by omega)];omega
   ·have hno2:¬iAt l n<=k:=by
     have h0:=hno (by omega)
     by_cases he:n=Ar l k
     ·rw[he];exact h0
     ·have:=h (Ar l k) n (by omega) (by omega)
      omega
    rw[SJ hno2,ih (by omega)];omega
 rw[key _ (Nat.le_refl _)]
 omega

theorem Qz {T:Tr} {lo hi:Int} (h:Fp T lo hi=true):∀i j,i<j->j<T.cuts.length->iAt T.cuts i<iAt T.cuts j:=by
 intro i j hij hj;induction j with
 |zero=>omega
 |succ j ih=>
  have h1:=GX h hj
  rw[G5] at h1
  have h2:=Ep.1 h1
  by_cases he:i=j
  ·subst he;omega
  ·have:=ih (by omega) (by omega);omega
end
section
theorem Jh {p:Int × Int} {l:PL} {k v:Int} (h:p.1<k):B9 (p::l) k v=p::B9 l k v:=by
 simp[B9,h,show ¬k<p.1 by omega]
theorem Ji {p:Int × Int} {l:PL} {k v:Int} (hg:∀q∈l,p.1<q.1) (h:p.1=k):B9 (p::l) k v=(k,v)::l:=by
 obtain⟨f1,f2,_⟩:=Fh (k:=k) (fun q hq=>by have:=hg q hq;omega)
 simp[B9,show ¬p.1<k by omega,show ¬k<p.1 by omega,f1,f2]
theorem I8 {p:Int × Int} {l:PL} {k v:Int} (hg:∀q∈l,p.1<q.1) (h:k<p.1):B9 (p::l) k v=(k,v)::p::l:=by
 obtain⟨f1,f2,_⟩:=Fh (k:=k) (fun q hq=>by have:=hg q hq;omega)
 simp[B9,show ¬p.1<k by omega,h,f1,f2]

theorem Cr {l:PL} (h:Asc l) {j k v:Int} (hj:j≠k):Ay (B9 l k v) j=Ay l j:=by
 induction l with
 |nil=>simp[B9,Ay,Ne.symm hj]
 |cons p l ih=>
  obtain⟨h1,h2⟩:=h.cons
  by_cases hlt:p.1<k
  ·rw[Jh hlt,Ay,Ay,ih h2]
  ·by_cases he:p.1=k
   ·rw[Ji h1 he,Ay,Ay,if_neg (by simpa using Ne.symm hj),if_neg (by omega)]
   ·rw[I8 h1 (by omega),Ay,if_neg (by simpa using Ne.symm hj)]
theorem Dr {l:PL} (h:Asc l) (k v:Int):Ay (B9 l k v) k=(v,true):=by
 induction l with
 |nil=>simp[B9,Ay]
 |cons p l ih=>
  obtain⟨h1,h2⟩:=h.cons
  by_cases hlt:p.1<k
  ·rw[Jh hlt,Ay,if_neg (by omega),ih h2]
  ·by_cases he:p.1=k
   ·rw[Ji h1 he,Ay,if_pos rfl]
   ·rw[I8 h1 (by omega),Ay,if_pos rfl]
theorem Kw (l:PL) {j k:Int} (hj:j≠k):Ay (Dk l k) j=Ay l j:=by
 induction l with
 |nil=>rfl
 |cons p l ih=>
  by_cases he:p.1=k
  ·rw[Dk,List.filter_cons_of_neg (by simp[he]),Ay,if_neg (by omega)];exact ih
  ·rw[Dk,List.filter_cons_of_pos (by simp[he]),Ay,Ay]
   have:Ay (List.filter (fun p=>decide (p.1≠k)) l) j=Ay l j:=ih
   rw[this]
theorem Mh (l:PL) (k:Int):Ay (Dk l k) k=(0,false):=by
 induction l with
 |nil=>rfl
 |cons p l ih=>
  by_cases he:p.1=k
  ·rw[Dk,List.filter_cons_of_neg (by simp[he])];exact ih
  ·rw[Dk,List.filter_cons_of_pos (by simp[he]),Ay,if_neg he];exact ih
theorem UK {l:PL} {o k v j:Int} (hj:j≠k):Ay (doL l (o,k,v)) j=Ay l j:=by
 unfold doL;split
 ·rename_i h1
  have hA:=((Ex l).1 h1.1).1
  unfold doP;simp only
  split
  ·exact Cr hA hj
  ·split
   ·exact Kw l hj
   ·split
    ·exact Cr hA hj
    ·rfl
 ·rfl
end
section
def ofK (ms:ML) (k:Int):ML:=ms.filter fun m=>decide (m.2.1=k)
theorem IL (a b:ML) (k:Int):ofK (a++b) k=ofK a k++ofK b k:=by simp[ofK]
theorem WJ (ms:ML) (k:Int):∀m∈ofK ms k,m.2.1=k:=fun m hm=>by simpa using(List.mem_filter.1 hm).2
theorem Mq (ms:ML) (k:Int):(ofK ms k).length<=ms.length:=List.length_filter_le _ _
theorem WQ {ms:ML} {k:Int} (h:∀m∈ms,m.2.1=k):ofK ms k=ms:=List.filter_eq_self.2 fun m hm=>by simpa using h m hm
theorem Vd (l:ML) (k:Int) (i:Nat) (h:i<l.length):ofK (l.take (i+1)) k=if mK l i=k then ofK (l.take i) k++[(mO l i,mK l i,mV l i)] else ofK (l.take i) k:=by
 rw[DA l i h,IL]
 by_cases hk:mK l i=k
 ·simp[hk,ofK]
 ·simp[hk,ofK]

def QA (T:Tr) (k:Int):Tr:=AQ T (Ar T.cuts k)
def DO:Nat->Tr->Int->Tr
 |0,T,_=>T
 |n+1,T,k=>if T.leaf=true then T else DO n (QA T k) k
def Dq:Nat->Tr->Int->ML
 |0,_,_=>[]
 |n+1,T,k=>if T.leaf=true then [] else Dq n (QA T k) k++ofK T.buf k
theorem Nq:∀(n:Nat) (T:Tr) (k:Int),∀m∈Dq n T k,m.2.1=k
 |0,_,_=>fun m hm=>by simp[Dq] at hm
 |n+1,T,k=>fun m hm=>by
  rw[Dq] at hm
  split at hm
  ·simp at hm
  ·rcases List.mem_append.1 hm with h|h
   ·exact Nq n _ k m h
   ·exact WJ _ _ m h

def UG (x:Int × Bool) (m:Int × Int × Int):Int × Bool:=
 if AO m.1 m.2.1 m.2.2=true then (if m.1=1 then (m.2.2,true) else if m.1=2 then (0,false) else if m.1=3 then (Bj (x.1+m.2.2),true) else x) else x
def Fr (x:Int × Bool) (ms:ML):Int × Bool:=ms.foldl UG x
theorem Hj (x:Int × Bool) (a b:ML):Fr x (a++b)=Fr (Fr x a) b:=by simp[Fr,List.foldl_append]

theorem MV {l:PL} (h:CP l) (o k v:Int):Ay (doL l (o,k,v)) k=UG (Ay l k) (o,k,v):=by
 have hm:Bh l=true:=(Ex l).2 h
 unfold doL UG;by_cases hk:AO o k v=true
 ·simp only[hm,hk,and_self,if_true]
  unfold doP;simp only
  split
  ·exact Dr h.1 k v
  ·split
   ·exact Mh l k
   ·split
    ·exact Dr h.1 k _
    ·rfl
 ·simp[hk]
theorem Im {l:PL} (h:CP l) (ms:ML) (k:Int):Ay (Cd l ms) k=Fr (Ay l k) (ofK ms k):=by
 induction ms generalizing l with
 |nil=>rfl
 |cons m ms ih=>
  obtain⟨o,j,v⟩:=m
  have e:Cd l ((o,j,v)::ms)=Cd (doL l (o,j,v)) ms:=rfl
  rw[e,ih (PH h _)]
  by_cases hj:j=k
  ·subst hj;rw[MV h]
   simp[ofK,Fr]
  ·rw[UK (Ne.symm hj)]
   simp[ofK,hj]

def Je (n:Nat) (T:Tr) (k:Int):Int × Bool:=Fr (Ay (DO n T k).pairs k) (Dq n T k)

def XH (l:PL) (k:Int):PL:=if (Ay l k).2=true then [(k,(Ay l k).1)] else []
theorem Bf {m:Nat} {T:Tr} {lo hi:Int} (h:AK (m+1) T lo hi≠0) (hl:T.leaf=true):Bw T lo hi=true:=by
 rw[Da hl] at h
 split at h
 ·assumption
 ·exact absurd rfl h
theorem A0 {m:Nat} {T:Tr} {lo hi:Int} (h:AK (m+1) T lo hi≠0) (hl:T.leaf=false):BH T lo hi=true/\∀i,i<T.kids.length->AK m (AQ T i) (Dl T lo i) (toT T hi i)≠0:=by
 cases hf:BH T lo hi
 ·rw[JO hl hf] at h;exact absurd rfl h
 ·refine⟨rfl,fun i hi0 h0=> ?_⟩
  rw[Dw hl hf] at h
  exact h (GP (d:=Cw m T lo hi) hi0 h0)
theorem Be {T:Tr} {lo hi:Int} (h:BH T lo hi=true):T.pairs=[]/\(2<=T.kids.length/\T.kids.length<=4)/\T.cuts.length+1=T.kids.length/\T.buf.length<=6/\GW T lo hi=true/\Fp T lo hi=true:=by
 simp only[BH,Ei,Bool.and_eq_true,decide_eq_true_eq] at h
 obtain⟨⟨h1,h2,h3,h4⟩,h5,h6⟩:=h
 exact⟨List.length_eq_zero_iff.1 h1,h2,h3,h4,h5,h6⟩
theorem Cb {T:Tr} {lo hi:Int} (h:Bw T lo hi=true):CP T.pairs/\T.pairs.length<=4/\T.kids=[]/\T.buf=[]/\T.cuts=[]/\∀p∈T.pairs,lo<=p.1/\p.1<hi:=by
 simp only[Bw,Bool.and_eq_true,decide_eq_true_eq] at h
 obtain⟨h1,h2,h3,h4⟩:=h
 refine⟨(Ex _).1 h1,h2,List.length_eq_zero_iff.1 (by omega),List.length_eq_zero_iff.1 (by omega),List.length_eq_zero_iff.1 (by omega),fun p hp=> ?_⟩
 obtain⟨i,hi0,rfl⟩:=List.getElem_of_mem hp
 have h5:=Ep.1 (GX h4 hi0)
 simp only[kOf,List.getD,List.getElem?_eq_getElem hi0,Option.getD_some] at h5
 omega
theorem Gm {T:Tr} {lo hi:Int} (h:GW T lo hi=true):∀m∈T.buf,AO m.1 m.2.1 m.2.2=true/\lo<=m.2.1/\m.2.1<hi:=by
 intro m hm;obtain⟨i,hi0,rfl⟩:=List.getElem_of_mem hm
 have h5:=GX h hi0
 simp only[ES,Bool.and_eq_true] at h5
 have h6:=Ep.1 h5.2.2
 rw[Ej _ _ hi0]
 exact⟨h5.1,h6.1,by show mK T.buf i<hi;omega⟩
theorem C9 {T:Tr} (h:okT T=true):AK 7 T 0 1000≠0:=by
 have h2:0<AK 7 T 0 1000:=of_decide_eq_true h
 exact Nat.pos_iff_ne_zero.1 h2
theorem I9 {T:Tr} {lo hi:Int} (h:BH T lo hi=true) (k:Int):Ar T.cuts k<T.kids.length:=by
 have:=(Be h).2.2.1
 have:=GH T.cuts k
 omega
theorem LB:∀ {m:Nat} {T:Tr} {lo hi:Int} (k:Int),AK m T lo hi≠0->CP (DO m T k).pairs/\(DO m T k).pairs.length<=4/\(DO m T k).leaf=true
 |0,_,_,_,_,h=>absurd rfl h
 |m+1,T,lo,hi,k,h=>by
  cases hl:T.leaf
  ·have hf:=A0 h hl
   rw[DO,if_neg (by rw[hl];simp)]
   exact LB k (hf.2 _ (I9 hf.1 k))
  ·rw[DO,if_pos hl]
   have:=Cb (Bf h hl)
   exact⟨this.1,this.2.1,hl⟩
theorem Hc:∀ {m:Nat} {T:Tr} {lo hi:Int} (k:Int),AK m T lo hi≠0->(Dq m T k).length<=6*m
 |0,_,_,_,_,h=>absurd rfl h
 |m+1,T,lo,hi,k,h=>by
  rw[Dq]
  cases hl:T.leaf
  ·have hf:=A0 h hl
   have h1:=Hc k (hf.2 _ (I9 hf.1 k))
   have h2:=Mq T.buf k
   have h3:=(Be hf.1).2.2.2.1
   rw[if_neg (by simp),List.length_append]
   show(Dq m (AQ T (Ar T.cuts k)) k).length+_<=_
   omega
  ·simp
end
end Go.Proofs.YtadmomgdacfgpaaGreat
