/-
  Contracts of the model's chapter 2: l2Leaf.
  The contract of the model's l2Depth.
  Contracts of the model's chapter 2: TreeDepth, TreeOk, l2Count, TreeCount, l2Kid, KidOf.
  Contracts of the model's chapter 2: TreeCount, l2Kid, KidOf; of the program's countAll, kidAt.
  Trees that own their memory; contracts of the laws' own functions that copy a tree.
  Contracts of the laws' own functions that copy a tree, of any height.
  Contracts of the program's chapter 2: kindOf, tooDeep, has, splits, rootOf, kid.
-/
import Derived.Test.YtadmomgdacfgpaaGreatOfInjd4
namespace Go.Proofs.YtadmomgdacfgpaaGreat
set_option maxRecDepth 100000
set_option maxHeartbeats 8000000
section
open Go.RowKit

def Ar (u:World) (B:Nat) (A:Array Value):Prop:=u.heap[B]? =some (.cells A 30 (0,0))
theorem Ar.step {u w' :World} {B:Nat} {A:Array Value} (h:Ar u B A) (hb:Below u.heap.size u w'):Ar w' B A:=
 (hb.block _ (Array.getElem?_eq_some_iff.1 h).1).trans h
theorem Ar.cells {u:World} {B:Nat} {A:Array Value} (h:Ar u B A):∀j,u.cell? ⟨B,j,none⟩=A[j]? :=fun j=>cell_of_row u B j A 30 (0,0) h
theorem Ar.start (w:World) (A:Array Value):Ar (w.alloc (.cells A 30)) w.heap.size A:=heap_alloc_new w _
theorem Gb (w:World) (A:Array Value):Below w.heap.size w (w.alloc (.cells A 30)):=(Below.refl _ _).alloc (Nat.le_refl _) _

theorem Kh.len {n:Nat} {w:World} {v:Value} {ts:List Tr} (h:Kh n w v ts):∃(a:Option Addr) (cap:Nat),v= .slice a ts.length cap/\ts.length<=maxLen:=by
 obtain⟨xs,hl,hr,_⟩:=h
 obtain⟨a,q,e,m⟩:=hr.len
 rw[hl] at e m
 exact⟨a,q,e,m⟩

theorem Us {T:Tr} {lo hi:Int} (h:Bd T.pairs=false):Bl T lo hi=false:=by simp[Bl,h]
theorem Vo {T:Tr} {lo hi:Int} (h:¬T.pairs.length<=4):Bl T lo hi=false:=by
 rw[Bl,decide_eq_false h];simp
theorem P5 {T:Tr} {lo hi:Int} (h:¬T.cuts.length+T.kids.length+T.buf.length=0):Bl T lo hi=false:=by
 rw[Bl,decide_eq_false h];simp
theorem Um {T:Tr} {lo hi:Int} {i:Nat} (hi' :i<T.pairs.length) (h:Ff T lo hi i=false):Bl T lo hi=false:=by
 rw[Bl,Gt,EP hi' h];simp
theorem Uo {T:Tr} {lo hi:Int} (h1:Bd T.pairs=true) (h2:T.pairs.length<=4) (h3:T.cuts.length+T.kids.length+T.buf.length=0) (h4:∀i,i<T.pairs.length->Ff T lo hi i=true):Bl T lo hi=true:=by
 rw[Bl,h1,decide_eq_true h2,decide_eq_true h3,Gt,Dr h4];rfl

def JX (T:Tr) (lo hi:Int):Int:=if Bl T lo hi=true then 1 else 0
theorem ID {T:Tr} {lo hi:Int} (h:Bl T lo hi=false):JX T lo hi=0:=by simp[JX,h]
theorem SR {T:Tr} {lo hi:Int} (h:Bl T lo hi=true):JX T lo hi=1:=by simp[JX,h]

theorem Q8 (n:Nat) (x:TV) (T:Tr) (lo hi:Int) (w:World) (ht:AO n w x T) (hsz:AU n T<=1099511627776) (hh0:0<=hi) (hh1:hi<=1000) :
  Calls Tryz.prog 125 #[x.val, .int .i64 lo, .int .i64 hi] w fun e w' =>e= .returned (.int .i64 (JX T lo hi))/\Below w.heap.size w w' :=by
 cases n with
 |zero=>exact ht.elim
 |succ n=>
 obtain⟨lf,p,c,k,b⟩:=x
 obtain⟨hlf,hp,hc,hb,hk⟩:=ht.parts
 simp only at hlf hp hc hb hk
 obtain⟨a2,q2,rfl,m2⟩:=hc.len
 obtain⟨a3,q3,rfl,m3⟩:=hk.len
 obtain⟨a4,q4,rfl,m4⟩:=hb.len
 obtain⟨a,bb,off,cap,rfl,hcap,hmax,ha,ck,cv⟩:=hp.pairs
 have R1:Hid (Row w (.slice a T.pairs.length cap) T.pairs.length (Aq T.pairs)):=hp
 unfold maxLen at hmax;clear m2 m3 m4;have hS:AU (n+1) T=T.pairs.length+(T.cuts.length+(T.kids.length+(T.kids.map (AU n)).sum+T.buf.length)):=rfl
 have m2:T.cuts.length<=1099511627776:=by omega
 have m3:T.kids.length<=1099511627776:=by omega
 have m4:T.buf.length<=1099511627776:=by omega
 clear hS hsz;clear ht hp hc hb hk hlf;show Calls Tryz.prog 125 #[.agg #[.bool lf, .slice a T.pairs.length cap, .slice a2 T.cuts.length q2, .slice a3 T.kids.length q3, .slice a4 T.buf.length q4], .int .i64 lo, .int .i64 hi] w _
 have B0:Hid _:=Gb w #[.bool lf, .slice a T.pairs.length cap, .slice a2 T.cuts.length q2, .slice a3 T.kids.length q3, .slice a4 T.buf.length q4]
 have S0:Hid (Ar _ w.heap.size _):=Ar.start w #[.bool lf, .slice a T.pairs.length cap, .slice a2 T.cuts.length q2, .slice a3 T.kids.length q3, .slice a4 T.buf.length q4]
 cases hmo:Bd T.pairs
 ·have E:Hid (Bl T lo hi=false):=Us hmo
  go_enter Tryz.func125,Tryz.ntmps125
  go_wp2_with fail;refine(CY _ _ _ (R1.out.below B0.out)).mono ?_
  rintro e w1 ⟨he,hb1⟩
  rw[hmo] at he
  subst he;have B1:Hid (Below w.heap.size w w1):=Below.and B0.out hb1
  clear B0 S0 hb1;go_wp2;go_ret;exact⟨Bg (ID E.out).symm,B1.out⟩
 ·by_cases h4:T.pairs.length<=4
  ·by_cases h0:T.cuts.length+T.kids.length+T.buf.length=0
   ·have z2:T.cuts.length=0:=by omega
    have z3:T.kids.length=0:=by omega
    have z4:T.buf.length=0:=by omega
    have YES:Hid ((∀i,i<T.pairs.length->Ff T lo hi i=true)->Bl T lo hi=true):=fun h=>Uo hmo h4 (by omega) h
    rw[z2,z3,z4] at B0 S0 ⊢
    clear z2 z3 z4 h0;go_enter Tryz.func125,Tryz.ntmps125
    go_wp2_with fail;refine(CY _ _ _ (R1.out.below B0.out)).mono ?_
    rintro e w1 ⟨he,hb1⟩
    rw[hmo] at he
    subst he;have B1:Hid (Below w.heap.size w w1):=Below.and B0.out hb1
    have S1:Hid (Ar w1 w.heap.size #[.bool lf, .slice a T.pairs.length cap, .slice a2 0 q2, .slice a3 0 q3, .slice a4 0 q4]):=S0.out.step hb1
    have k0:=S1.out.cells
    clear B0 S0 hb1;go_wp2;go_loopw [7] (fun i wr=>∃k:Nat,k<=T.pairs.length/\i= .int .i64 k/\wr=w1/\Hid (∀i,i<k->Ff T lo hi i=true))
     (fun i _=>T.pairs.length-(intOf i).toNat)
    case atStart=>exact⟨0,Nat.zero_le _,rfl,rfl,fun i hi=>absurd hi (Nat.not_lt_zero _)⟩
    case round=>
     obtain⟨k,hkl,rfl,rfl,ALL⟩:=hrel
     by_cases hlt:k<T.pairs.length
     ·have hal:=ha (by omega)
      subst hal;have d0:=(B1.out.cell (by exact Aa (ck k hlt))).trans (ck k hlt)
      clear ck cv ha
      cases hq:inB (kOf T.pairs k) lo (hi-1)
      ·have NO:Hid (Bl T lo hi=false):=Um hlt hq
       go_wp2_with (go_at_call 77;refine(Cd _ _ _ _).mono ?_;rintro e w' ⟨rfl,rfl⟩)
       go_ret;exact⟨Bg (ID NO.out).symm,B1.out⟩
      ·have YS:Hid (Ff T lo hi k=true):=hq
       go_wp2_with (go_at_call 77;refine(Cd _ _ _ _).mono ?_;rintro e w' ⟨rfl,rfl⟩)
       go_roundw
       case rel=>exact⟨k+1,by omega,by go_num,trivial,fun i hi=>if h:i<k then ALL.out i h else by rw[show i=k by omega];exact YS.out⟩
       case measure=>simp[intOf];omega
     ·clear ck cv ha;go_wp2;go_ret;exact⟨Bg (SR (YES.out (fun i hi=>ALL.out i (by omega)))).symm,B1.out⟩
   ·have E:Hid (Bl T lo hi=false):=P5 (by omega)
    have hpos:(0:Int)<(T.cuts.length:Int)+(T.kids.length:Int)+(T.buf.length:Int):=by omega
    clear h0;go_enter Tryz.func125,Tryz.ntmps125
    go_wp2_with fail;refine(CY _ _ _ (R1.out.below B0.out)).mono ?_
    rintro e w1 ⟨he,hb1⟩
    rw[hmo] at he
    subst he;have B1:Hid (Below w.heap.size w w1):=Below.and B0.out hb1
    have S1:Hid (Ar w1 w.heap.size #[.bool lf, .slice a T.pairs.length cap, .slice a2 T.cuts.length q2, .slice a3 T.kids.length q3, .slice a4 T.buf.length q4]):=S0.out.step hb1
    have k0:=S1.out.cells
    clear B0 S0 hb1;go_wp2;go_ret;exact⟨Bg (ID E.out).symm,B1.out⟩
  ·have E:Hid (Bl T lo hi=false):=Vo h4
   have h4' :(4:Int)<(T.pairs.length:Int):=by omega
   clear h4;go_enter Tryz.func125,Tryz.ntmps125
   go_wp2_with fail;refine(CY _ _ _ (R1.out.below B0.out)).mono ?_
   rintro e w1 ⟨he,hb1⟩
   rw[hmo] at he
   subst he;have B1:Hid (Below w.heap.size w w1):=Below.and B0.out hb1
   have S1:Hid (Ar w1 w.heap.size #[.bool lf, .slice a T.pairs.length cap, .slice a2 T.cuts.length q2, .slice a3 T.kids.length q3, .slice a4 T.buf.length q4]):=S0.out.step hb1
   have k0:=S1.out.cells
   clear B0 S0 hb1;go_wp2;go_ret;exact⟨Bg (ID E.out).symm,B1.out⟩
end
section
open Go.RowKit

theorem Qh {m:Nat} {T:Tr} {lo hi:Int} (h:T.leaf=true):JX T lo hi=(AE (m+1) T lo hi:Int):=by
 rw[Cu h,JX];split<;>rfl
theorem Ea {T:Tr} {lo hi:Int} (h:DZ T=false):Bn T lo hi=false:=by simp[Bn,h]
theorem Hm {T:Tr} {lo hi:Int} {i:Nat} (hi' :i<T.buf.length) (h:Ev T lo hi i=false):Bn T lo hi=false:=by rw[Bn,GL,EP hi' h];simp
theorem P9 {T:Tr} {lo hi:Int} {i:Nat} (hi' :i<T.cuts.length) (h:FN T lo hi i=false):Bn T lo hi=false:=by rw[Bn,E8,EP hi' h];simp
theorem Vg {T:Tr} {lo hi:Int} (h1:DZ T=true) (h2:∀i,i<T.buf.length->Ev T lo hi i=true) (h3:∀i,i<T.cuts.length->FN T lo hi i=true):Bn T lo hi=true:=by
 rw[Bn,h1,GL,Dr h2,E8,Dr h3];rfl
theorem MU {T:Tr} (h:¬T.pairs.length=0):DZ T=false:=by rw[DZ,decide_eq_false h];rfl
theorem Tb {T:Tr} (h:inB (T.kids.length:Int) 2 4=false):DZ T=false:=by
 have:¬(2<=T.kids.length/\T.kids.length<=4):=by
  intro hc;rw[Fc (by omega) (by omega)] at h
  cases h
 rw[DZ,decide_eq_false this];simp
theorem Ud {T:Tr} (h:¬T.cuts.length+1=T.kids.length):DZ T=false:=by rw[DZ,decide_eq_false h];simp
theorem St {T:Tr} (h:¬T.buf.length<=6):DZ T=false:=by rw[DZ,decide_eq_false h];simp
theorem Tu {T:Tr} (h1:T.pairs.length=0) (h2:inB (T.kids.length:Int) 2 4=true) (h3:T.cuts.length+1=T.kids.length) (h4:T.buf.length<=6):DZ T=true:=by
 have h2' :=Ec.1 h2
 rw[DZ,decide_eq_true h1,decide_eq_true (p:=2<=T.kids.length/\T.kids.length<=4) (by omega),decide_eq_true h3,decide_eq_true h4];rfl

def Kf (m:Nat):Prop:=∀(n:Nat) (x:TV) (T:Tr) (lo hi:Int) (w:World),AO n w x T->AU n T<=1099511627776->0<=lo->lo<=1000->0<=hi->hi<=1000→
  Calls Tryz.prog 109 #[x.val, .int .i64 lo, .int .i64 hi, .int .i64 m] w fun e w' =>e= .returned (.int .i64 (AE m T lo hi:Nat))/\Below w.heap.size w w'

theorem Ot:Kf 0:=by
 intro n x T lo hi w ht _ _ _ _ _;have E:AE 0 T lo hi=0:=rfl
 rw[E]
 show Calls Tryz.prog 109 #[.agg #[.bool x.lf,x.p,x.c,x.k,x.b], .int .i64 lo, .int .i64 hi, .int .i64 0] w _
 go_enter Tryz.func109,Tryz.ntmps109
 go_wp2;go_ret;exact⟨rfl,(Below.refl _ _).alloc (Nat.le_refl _) _⟩

theorem Oa {m:Nat} (hm:m<=1000) (n:Nat) (x:TV) (T:Tr) (lo hi:Int) (w:World) (ht:AO n w x T) (hlf:T.leaf=true) (hsz:AU n T<=1099511627776) (hh0:0<=hi) (hh1:hi<=1000) :
  Calls Tryz.prog 109 #[x.val, .int .i64 lo, .int .i64 hi, .int .i64 ((m+1:Nat):Int)] w fun e w' =>e= .returned (.int .i64 (AE (m+1) T lo hi:Nat))/\Below w.heap.size w w' :=by
 have E:Hid (JX T lo hi=(AE (m+1) T lo hi:Int)):=Qh hlf
 have hlx:x.lf=true:=by
  cases n with
  |zero=>exact ht.elim
  |succ n=>exact ht.parts.1.trans hlf
 have TT:Hid (AO n w x T):=ht
 generalize AE (m+1) T lo hi=d at *
 have hne:(((m+1:Nat):Int)==0)=false:=by rw[beq_eq_false_iff_ne];omega
 obtain⟨lf,p,c,k,b⟩:=x
 simp only at hlx
 subst hlx;have B0:Hid _:=Gb w #[.bool true,p,c,k,b]
 clear ht;show Calls Tryz.prog 109 #[.agg #[.bool true,p,c,k,b], .int .i64 lo, .int .i64 hi, .int .i64 ((m+1:Nat):Int)] w _
 go_enter Tryz.func109,Tryz.ntmps109
 go_wp2_with fail;refine(Q8 n ⟨true,p,c,k,b⟩ T lo hi _ (TT.out.below B0.out) hsz hh0 hh1).mono ?_
 rintro e w1 ⟨he,hb1⟩
 rw[E.out] at he
 subst he;have B1:Hid (Below w.heap.size w w1):=Below.and B0.out hb1
 clear hb1 B0;go_wp2;go_ret;exact⟨rfl,B1.out⟩

theorem Q7 {T:Tr} {lo hi:Int} {k:Nat} (h:k<T.cuts.length):toT T hi k=Da T lo (k+1):=by
 simp[toT,Da,h]

theorem N4 {m:Nat} (hm:m<=1000) (H:Kf m) (n:Nat) (x:TV) (T:Tr) (lo hi:Int) (w:World) (ht:AO n w x T) (hlf:T.leaf=false) (hsz:AU n T<=1099511627776) (hl0:0<=lo) (hl1:lo<=1000) (hh0:0<=hi) (hh1:hi<=1000) :
  Calls Tryz.prog 109 #[x.val, .int .i64 lo, .int .i64 hi, .int .i64 ((m+1:Nat):Int)] w fun e w' =>e= .returned (.int .i64 (AE (m+1) T lo hi:Nat))/\Below w.heap.size w w' :=by
 cases n with
 |zero=>exact ht.elim
 |succ n=>
 obtain⟨lf,p,c,k,b⟩:=x
 obtain⟨hlx,hp,hc,hb,hk⟩:=ht.parts
 simp only at hlx hp hc hb hk
 rw[hlf] at hlx
 subst hlx;have NO:Hid (Bn T lo hi=false->AE (m+1) T lo hi=0):=Jv hlf
 have YES:Hid (Bn T lo hi=true->AE (m+1) T lo hi=DY (Cm m T lo hi) T.kids.length):=Cv hlf
 generalize AE (m+1) T lo hi=D at *
 obtain⟨a1,q1,rfl,_⟩:=hp.len
 obtain⟨a2,b2,off2,q2,rfl,hcap2,hmax2,ha2,cc⟩:=hc.ints
 obtain⟨xs,hxl,hrow,hkt⟩:=hk
 obtain⟨a3,b3,off3,q3,he3,hcap3,hmax3,ha3,c0,c1,c2,c3,c4⟩:=hrow.trees
 rw[hxl] at he3 hcap3 ha3 c0 c1 c2 c3 c4 hkt
 subst he3;obtain⟨a4,b4,off4,q4,rfl,hcap4,hmax4,ha4,go,gk,gv⟩:=hb.msgs
 have hS:AU (n+1) T=T.pairs.length+(T.cuts.length+(T.kids.length+(T.kids.map (AU n)).sum+T.buf.length)):=rfl
 have KSZ:Hid (∀i,i<T.kids.length->AU n (Ba T i)<=1099511627776):=fun i hi=>by have:=I7 (n:=n) hi;omega
 have m1:T.pairs.length<=1099511627776:=by omega
 have m2:T.cuts.length<=1099511627776:=by omega
 have m3:T.kids.length<=1099511627776:=by omega
 have m4:T.buf.length<=1099511627776:=by omega
 unfold maxLen at hmax2 hmax3 hmax4;clear hS hsz hp hc hb hrow ht;have KT:=hid (hkt)
 have HH:Hid (Kf m):=H
 clear H hkt hxl hlf;generalize g1:T.pairs.length=n1 at *
 generalize g2:T.cuts.length=n2 at *
 generalize g3:T.kids.length=n3 at *
 generalize g4:T.buf.length=n4 at *
 generalize gM:((m+1:Nat):Int)=M
 have G1:=hid (g1)
 have G2:=hid (g2)
 have G3:=hid (g3)
 have G4:=hid (g4)
 have hne:(M==0)=false:=by rw[beq_eq_false_iff_ne];omega
 have hM0:0<M:=by omega
 have hM1:M<=1001:=by omega
 have MM:Hid (M-1=(m:Int)):=by show _=_;omega
 clear g1 g2 g3 g4 gM;show Calls Tryz.prog 109 #[.agg #[.bool false, .slice a1 n1 q1, .slice a2 n2 q2, .slice a3 n3 q3, .slice a4 n4 q4], .int .i64 lo, .int .i64 hi, .int .i64 M] w _
 have B0:Hid _:=Gb w #[.bool false, .slice a1 n1 q1, .slice a2 n2 q2, .slice a3 n3 q3, .slice a4 n4 q4]
 have S0:=hid (Ar.start w #[.bool false, .slice a1 n1 q1, .slice a2 n2 q2, .slice a3 n3 q3, .slice a4 n4 q4])
 by_cases hp0:n1=0
 case neg=>
  have E:=NO.out (Ea (MU (by rw[G1.out];exact hp0)))
  have hp1:(0:Int)<(n1:Int):=by omega
  subst E;clear NO YES KT KSZ ha2 cc ha3 c0 c1 c2 c3 c4 ha4 go gk gv S0 hp0;go_enter Tryz.func109,Tryz.ntmps109
  go_wp2;go_ret;exact⟨Bg (by simp),B0.out⟩
 case pos=>
 subst hp0
 cases hin:inB (n3:Int) 2 4
 ·have E:=NO.out (Ea (Tb (by rw[G3.out];exact hin)))
  subst E;clear NO YES KT KSZ ha2 cc ha3 c0 c1 c2 c3 c4 ha4 go gk gv S0;go_enter Tryz.func109,Tryz.ntmps109
  go_wp2_with (go_at_call 77;refine(Cd _ _ _ _).mono ?_;rintro e w' ⟨rfl,rfl⟩)
  go_ret;exact⟨Bg (by simp),B0.out⟩
 by_cases hcl:n2+1=n3
 case neg=>
  have E:=NO.out (Ea (Ud (by rw[G2.out,G3.out];exact hcl)))
  have hcl1:((n2:Int) != (n3:Int)-1)=true:=by rw[bne_iff_ne];omega
  subst E;clear NO YES KT KSZ ha2 cc ha3 c0 c1 c2 c3 c4 ha4 go gk gv S0 hcl;go_enter Tryz.func109,Tryz.ntmps109
  go_wp2_with (go_at_call 77;refine(Cd _ _ _ _).mono ?_;rintro e w' ⟨rfl,rfl⟩)
  go_ret;exact⟨Bg (by simp),B0.out⟩
 case pos=>
 have hcl1:((n2:Int) != (n3:Int)-1)=false:=by rw[bne_eq_false_iff_eq];omega
 by_cases hb6:n4<=6
 case neg=>
  have E:=NO.out (Ea (St (by rw[G4.out];exact hb6)))
  have hb61:(6:Int)<(n4:Int):=by omega
  subst E;clear NO YES KT KSZ ha2 cc ha3 c0 c1 c2 c3 c4 ha4 go gk gv S0 hcl hb6;go_enter Tryz.func109,Tryz.ntmps109
  go_wp2_with (go_at_call 77;refine(Cd _ _ _ _).mono ?_;rintro e w' ⟨rfl,rfl⟩)
  go_ret;exact⟨Bg (by simp),B0.out⟩
 case pos=>
 have SH:=hid (Tu G1.out (by rw[G3.out];exact hin) (by rw[G2.out,G3.out];exact hcl) (by rw[G4.out];exact hb6))
 have hb61:¬(6:Int)<(n4:Int):=by omega
 have CL:=hid (hcl)
 have C0:=hid (c0)
 have C1:=hid (c1)
 have C2:=hid (c2)
 have C3:=hid (c3)
 have C4:=hid (c4)
 have CC:=hid (cc)
 have GO:=hid (go)
 have GK:=hid (gk)
 have GV:=hid (gv)
 have A2:=hid (ha2)
 have A3:=hid (ha3)
 have A4:=hid (ha4)
 clear hcl c0 c1 c2 c3 c4 cc go gk gv ha2 ha3 ha4;go_enter Tryz.func109,Tryz.ntmps109
 go_wp2_with (go_at_call 77;refine(Cd _ _ _ _).mono ?_;rintro e w' ⟨rfl,rfl⟩)
 go_loopw [10] (fun i wr=>∃k:Nat,k<=n4/\i= .int .i64 k/\Hid (∀i,i<k->Ev T lo hi i=true)/\Hid (Below w.heap.size w wr)/\Hid (Ar wr w.heap.size #[.bool false, .slice a1 0 q1, .slice a2 n2 q2, .slice a3 n3 q3, .slice a4 n4 q4]))
  (fun i _=>n4-(intOf i).toNat)
 case atStart=>exact⟨0,Nat.zero_le _,rfl,fun i hi=>absurd hi (Nat.not_lt_zero _),B0.out,S0.out⟩
 case round=>
  obtain⟨k,hkl,rfl,ALL,BB,SS⟩:=hrel
  clear B0 S0;have k0:=SS.out.cells
  by_cases hlt:k<n4
  ·have hal:=A4.out (by omega)
   subst hal;have e0:=(BB.out.cell (by exact Aa (GO.out k hlt))).trans (GO.out k hlt)
   have e1:=(BB.out.cell (by exact Aa (GK.out k hlt))).trans (GK.out k hlt)
   have e2:=(BB.out.cell (by exact Aa (GV.out k hlt))).trans (GV.out k hlt)
   cases hmo:AJ (mO T.buf k) (mK T.buf k) (mV T.buf k)
   ·have E:=NO.out (Hm (i:=k) (by rw[G4.out];exact hlt) (by rw[Ev,hmo];rfl))
    subst E;go_wp2_with fail;refine(Ca _ _ _ _).mono ?_
    rintro e w1 ⟨he,hb1⟩
    rw[hmo] at he
    subst he;have B1:=hid (Below.and BB.out hb1)
    clear hb1;go_wp2;go_ret;exact⟨Bg (by simp),B1.out⟩
   ·cases ho:(mO T.buf k==4)
    ·cases hq:inB (mK T.buf k) lo (hi-1)
     ·have E:=NO.out (Hm (i:=k) (by rw[G4.out];exact hlt) (by rw[Ev,hq];simp))
      subst E;go_wp2_with fail;refine(Ca _ _ _ _).mono ?_
      rintro e w1 ⟨he,hb1⟩
      rw[hmo] at he
      subst he;have B1:=hid (Below.and BB.out hb1)
      have f0:=(hb1.cell (by exact Aa e0)).trans e0
      have f1:=(hb1.cell (by exact Aa e1)).trans e1
      have f2:=(hb1.cell (by exact Aa e2)).trans e2
      have k1:=(SS.out.step hb1).cells
      clear hb1;go_wp2_with (go_at_call 77;refine(Cd _ _ _ _).mono ?_;rintro e w' ⟨rfl,rfl⟩)
      go_ret;exact⟨Bg (by simp),B1.out⟩
     ·have OK:Hid (Ev T lo hi k=true):=by
       show _=_
       rw[Ev,hmo,ho,hq];rfl
      go_wp2_with fail;refine(Ca _ _ _ _).mono ?_
      rintro e w1 ⟨he,hb1⟩
      rw[hmo] at he
      subst he;have B1:=hid (Below.and BB.out hb1)
      have f0:=(hb1.cell (by exact Aa e0)).trans e0
      have f1:=(hb1.cell (by exact Aa e1)).trans e1
      have f2:=(hb1.cell (by exact Aa e2)).trans e2
      have S1:=hid (SS.out.step hb1)
      have k1:=S1.out.cells
      clear hb1;go_wp2_with (go_at_call 77;refine(Cd _ _ _ _).mono ?_;rintro e w' ⟨rfl,rfl⟩)
      go_roundw
      case rel=>exact⟨k+1,by omega,by go_num,fun i hi=>if h:i<k then ALL.out i h else by rw[show i=k by omega];exact OK.out,B1,S1⟩
      case measure=>simp[intOf];omega
    ·have E:=NO.out (Hm (i:=k) (by rw[G4.out];exact hlt) (by rw[Ev,ho];simp))
     subst E;go_wp2_with fail;refine(Ca _ _ _ _).mono ?_
     rintro e w1 ⟨he,hb1⟩
     rw[hmo] at he
     subst he;have B1:=hid (Below.and BB.out hb1)
     have f0:=(hb1.cell (by exact Aa e0)).trans e0
     have f1:=(hb1.cell (by exact Aa e1)).trans e1
     have f2:=(hb1.cell (by exact Aa e2)).trans e2
     have k1:=(SS.out.step hb1).cells
     clear hb1;go_wp2;go_ret;exact⟨Bg (by simp),B1.out⟩
  ·have BUF:=hid (fun i (hi:i<T.buf.length)=>ALL.out i (by rw[G4.out] at hi;omega))
   have ZERO:Hid (DY (Cm m T lo hi) n3=0->D=0):=fun h=>by
    cases hf:Bn T lo hi
    ·exact NO.out hf
    ·rw[YES.out hf];exact h
   clear GO GK GV A4 ALL;go_wp2;clear hlt hkl;go_loopw [11,12,13] (fun dp fr i wr=>∃(k d:Nat) (y:Int),k<=n3/\i= .int .i64 k/\dp= .int .i64 d/\fr= .int .i64 y/\0<=y/\y<=1000/\d<=1000/\Hid (k<n3->y=Da T lo k)∧
     Hid ((0<k->d=Cm m T lo hi 0/\d≠0)/\(∀i,i<k->Cm m T lo hi i=Cm m T lo hi 0)/\(∀i,i<k->i<n2->FN T lo hi i=true))/\Hid (Below w.heap.size w wr)/\Hid (Ar wr w.heap.size #[.bool false, .slice a1 0 q1, .slice a2 n2 q2, .slice a3 n3 q3, .slice a4 n4 q4]))
    (fun _ _ i _=>n3-(intOf i).toNat)
   case atStart=>exact⟨0,0,lo,Nat.zero_le _,rfl,rfl,rfl,hl0,hl1,by omega,fun _=>rfl,⟨fun h=>absurd h (Nat.lt_irrefl _),fun i hi=>absurd hi (Nat.not_lt_zero _),fun i hi=>absurd hi (Nat.not_lt_zero _)⟩,BB,SS⟩
   case round=>
   clear BB SS k0;obtain⟨k,d,y,hkl,rfl,rfl,rfl,hy0,hy1,hd,YF,INV,BB,SS⟩:=hrel
   have k0:=SS.out.cells
   by_cases hlt:k<n3
   ·have hal:=A3.out (by omega)
    subst hal;have e0:=(BB.out.cell (by exact Aa (C0.out k hlt))).trans (C0.out k hlt)
    have e1:=(BB.out.cell (by exact Aa (C1.out k hlt))).trans (C1.out k hlt)
    have e2:=(BB.out.cell (by exact Aa (C2.out k hlt))).trans (C2.out k hlt)
    have e3:=(BB.out.cell (by exact Aa (C3.out k hlt))).trans (C3.out k hlt)
    have e4:=(BB.out.cell (by exact Aa (C4.out k hlt))).trans (C4.out k hlt)
    have T0:=hid ((KT.out k hlt).below BB.out)
    have TS:=hid (KSZ.out k hlt)
    have Y0:=hid (YF.out hlt)
    obtain⟨z,hz⟩:∃z,Cm m T lo hi k=z:=⟨_,rfl⟩
    have ZE:=hid (hz)
    clear hz;by_cases hlast:k<n2
    ·have hl3:(k:Int)<(n3:Int)-1:=by have:=CL.out;omega
     have hal2:=A2.out (by omega)
     subst hal2;have ec:=(BB.out.cell (by exact Aa (CC.out k hlast))).trans (CC.out k hlast)
     cases hcut:inB (iAt T.cuts k) (y+1) (hi-1)
     ·have E:=NO.out (P9 (i:=k) (by rw[G2.out];exact hlast) (by rw[FN, ← Y0.out];exact hcut))
      subst E;clear T0 e0 e1 e2 e3 e4;go_wp2_with (go_at_call 77;refine(Cd _ _ _ _).mono ?_;rintro e w' ⟨rfl,rfl⟩)
      go_ret;exact⟨Bg (by simp),BB.out⟩
     ·have hc2:=Ec.1 hcut
      obtain⟨TO,hTO⟩:∃TO,iAt T.cuts k=TO:=⟨_,rfl⟩
      have TO0:0<=TO:=by omega
      have TO1:TO<=1000:=by omega
      have TOE:Hid (toT T hi k=TO):=by
       show _=_
       rw[toT,if_pos (by rw[G2.out];exact hlast),hTO]
      have NX:Hid (k+1<n3->TO=Da T lo (k+1)):=fun _=>by rw[←TOE.out];exact Q7 (by rw[G2.out];exact hlast)
      have CU:∀i,i<k+1->i<n2->FN T lo hi i=true:=fun i hi h2=>if h:i<k then INV.out.2.2 i h h2 else by rw[show i=k by omega,FN, ← Y0.out];exact hcut
      rw[hTO] at ec hcut
      have EE:Hid (AE m (Ba T k) y TO=z):=by
       show _=_
       rw[←ZE.out,Cm, ← Y0.out,TOE.out]
      have HC:=HH.out n (Ay xs k) (Ba T k) y TO wr T0.out TS.out hy0 hy1 TO0 TO1
      rw[←MM.out] at HC
      have HC' :Hid _:=HC
      have CU' :=hid (CU)
      clear HC CU hc2;go_wp2_with (go_at_call 77;refine(Cd _ _ _ _).mono ?_;rintro e w' ⟨rfl,rfl⟩)
      refine Calls.mono HC'.out ?_
      rintro e w1 ⟨he,hb1⟩
      rw[EE.out] at he
      subst he;have B1:=hid (Below.and BB.out hb1)
      have S1:=hid (SS.out.step hb1)
      have k1:=S1.out.cells
      have ZL:z<=1000:=by
       have:=Gq m (Ba T k) (Da T lo k) (toT T hi k)
       have h2:=ZE.out
       unfold Cm at h2;omega
      clear hb1 T0 e0 e1 e2 e3 e4;by_cases hz:z=0
      ·have E:=ZERO.out (GQ (i:=k) hlt (by rw[ZE.out];exact hz))
       subst E;subst hz;go_wp2;go_ret;exact⟨Bg (by simp),B1.out⟩
      ·have hz1:((z:Int)==0)=false:=by rw[beq_eq_false_iff_ne];omega
       cases k with
       |zero=>
        go_wp2;go_roundw
        case rel=>exact⟨1,z,TO,by omega,by go_num,rfl,rfl,TO0,TO1,ZL,NX,⟨fun _=>⟨ZE.out.symm,hz⟩,fun i hi=>by rw[show i=0 by omega],CU'.out⟩,B1,S1⟩
        case measure=>simp[intOf];omega
       |succ k=>
        have hpos:(0:Int)<((k+1:Nat):Int):=by omega
        have HD0:=hid ((INV.out.1 (by omega)).1)
        by_cases hzd:z=d
        ·have hzd1:((z:Int) != (d:Int))=false:=by rw[bne_eq_false_iff_eq];omega
         have HZ:Hid (z=d):=hzd
         clear hzd;go_wp2;go_roundw
         case rel=>exact⟨k+1+1,z,TO,by omega,by go_num,rfl,rfl,TO0,TO1,ZL,NX,⟨fun _=>⟨by rw[HZ.out];exact HD0.out,hz⟩,fun i hi=>if h:i<k+1 then INV.out.2.1 i h else by rw[show i=k+1 by omega,ZE.out,HZ.out];exact HD0.out,CU'.out⟩,B1,S1⟩
         case measure=>simp[intOf];omega
        ·have hzd1:((z:Int) != (d:Int))=true:=by rw[bne_iff_ne];omega
         have E:=ZERO.out (Gk (i:=k+1) hlt (by rw[ZE.out, ← HD0.out];exact hzd))
         subst E;go_wp2;go_ret;exact⟨Bg (by simp),B1.out⟩
    ·have hl3:¬(k:Int)<(n3:Int)-1:=by have:=CL.out;omega
     obtain⟨TO,hTO⟩:∃TO,hi=TO:=⟨_,rfl⟩
     have TO0:0<=TO:=by omega
     have TO1:TO<=1000:=by omega
     have TOE:Hid (toT T hi k=TO):=by
      show _=_
      rw[toT,if_neg (by rw[G2.out];exact hlast),hTO]
     have NX:Hid (k+1<n3->TO=Da T lo (k+1)):=fun h=>absurd h (by have:=CL.out;omega)
     have CU' :=hid (fun i (hi:i<k+1) (h2:i<n2)=>if h:i<k then INV.out.2.2 i h h2 else absurd h2 (by omega))
     have EE:Hid (AE m (Ba T k) y TO=z):=by
      show _=_
      rw[←ZE.out,Cm, ← Y0.out,TOE.out]
     have HC:=HH.out n (Ay xs k) (Ba T k) y TO wr T0.out TS.out hy0 hy1 TO0 TO1
     rw[←MM.out] at HC
     have HC' :Hid _:=HC
     clear HC;rw[←hTO] at HC' EE TO0 TO1 NX TOE
     clear hTO;go_wp2_with fail;refine Calls.mono HC'.out ?_
     rintro e w1 ⟨he,hb1⟩
     rw[EE.out] at he
     subst he;have B1:=hid (Below.and BB.out hb1)
     have S1:=hid (SS.out.step hb1)
     have k1:=S1.out.cells
     have ZL:z<=1000:=by
      have:=Gq m (Ba T k) (Da T lo k) (toT T hi k)
      have h2:=ZE.out
      unfold Cm at h2;omega
     clear hb1 T0 e0 e1 e2 e3 e4;by_cases hz:z=0
     ·have E:=ZERO.out (GQ (i:=k) hlt (by rw[ZE.out];exact hz))
      subst E;subst hz;go_wp2;go_ret;exact⟨Bg (by simp),B1.out⟩
     ·have hz1:((z:Int)==0)=false:=by rw[beq_eq_false_iff_ne];omega
      cases k with
      |zero=>
       go_wp2;go_roundw
       case rel=>exact⟨1,z,hi,by omega,by go_num,rfl,rfl,TO0,TO1,ZL,NX,⟨fun _=>⟨ZE.out.symm,hz⟩,fun i hi=>by rw[show i=0 by omega],CU'.out⟩,B1,S1⟩
       case measure=>simp[intOf];omega
      |succ k=>
       have hpos:(0:Int)<((k+1:Nat):Int):=by omega
       have HD0:=hid ((INV.out.1 (by omega)).1)
       by_cases hzd:z=d
       ·have hzd1:((z:Int) != (d:Int))=false:=by rw[bne_eq_false_iff_eq];omega
        have HZ:Hid (z=d):=hzd
        clear hzd;go_wp2;go_roundw
        case rel=>exact⟨k+1+1,z,hi,by omega,by go_num,rfl,rfl,TO0,TO1,ZL,NX,⟨fun _=>⟨by rw[HZ.out];exact HD0.out,hz⟩,fun i hi=>if h:i<k+1 then INV.out.2.1 i h else by rw[show i=k+1 by omega,ZE.out,HZ.out];exact HD0.out,CU'.out⟩,B1,S1⟩
        case measure=>simp[intOf];omega
       ·have hzd1:((z:Int) != (d:Int))=true:=by rw[bne_iff_ne];omega
        have E:=ZERO.out (Gk (i:=k+1) hlt (by rw[ZE.out, ← HD0.out];exact hzd))
        subst E;go_wp2;go_ret;exact⟨Bg (by simp),B1.out⟩
   ·have hkk:k=n3:=by omega
    have hk0:0<k:=by have:=CL.out;omega
    obtain⟨hd0,hd1⟩:=INV.out.1 hk0
    have E:Hid (D=d+1):=by
     show _=_
     rw[YES.out (Vg SH.out BUF.out (fun i hi=>INV.out.2.2 i (by have:=CL.out;rw[G2.out] at hi;omega) (by rw[G2.out] at hi;exact hi))),EZ (by rw[←hd0];exact hd1) (fun i hi=>INV.out.2.1 i (by omega)),hd0]
    clear hd0 hd1;go_wp2;go_ret;exact⟨Bg (by rw[E.out];omega),BB.out⟩

theorem JK:∀m,m<=1000->Kf m
 |0,_=>Ot
 |m+1,hm=>fun n x T lo hi w ht hsz hl0 hl1 hh0 hh1=>by
  cases hlf:T.leaf
  ·exact N4 (by omega) (JK m (by omega)) n x T lo hi w ht hlf hsz hl0 hl1 hh0 hh1
  ·exact Oa (by omega) n x T lo hi w ht hlf hsz hh0 hh1
end
section
open Go.RowKit

theorem IY (n:Nat) (x:TV) (T:Tr) (w:World) (ht:AO n w x T) (hsz:AU n T<=1099511627776) :
  Calls Tryz.prog 76 #[x.val] w fun e w' =>e= .returned (.int .i64 (Al T:Nat))/\Below w.heap.size w w' :=by
 have TT:Hid (AO n w x T):=ht
 clear ht;obtain⟨lf,p,c,k,b⟩:=x
 have B0:Hid _:=Gb w #[.bool lf,p,c,k,b]
 have HC:=JK 7 (by omega) n ⟨lf,p,c,k,b⟩ T 0 1000 _ (TT.out.below B0.out) hsz (by omega) (by omega) (by omega) (by omega)
 have HC' :Hid _:=HC
 clear HC;show Calls Tryz.prog 76 #[.agg #[.bool lf,p,c,k,b]] w _
 unfold Al;generalize AE 7 T 0 1000=d at *
 go_enter Tryz.func76,Tryz.ntmps76
 go_wp2_with fail;refine Calls.mono HC'.out ?_
 rintro e w1 ⟨rfl,hb1⟩
 have B1:Hid (Below w.heap.size w w1):=Below.and B0.out hb1
 clear hb1 B0;go_wp2;go_ret;exact⟨rfl,B1.out⟩

theorem Hg (n:Nat) (x:TV) (T:Tr) (w:World) (ht:AO n w x T) (hsz:AU n T<=1099511627776) :
  Calls Tryz.prog 35 #[x.val] w fun e w' =>e= .returned (.bool (okT T))/\Below w.heap.size w w' :=by
 have TT:Hid (AO n w x T):=ht
 clear ht;obtain⟨lf,p,c,k,b⟩:=x
 have B0:Hid _:=Gb w #[.bool lf,p,c,k,b]
 have HC:=IY n ⟨lf,p,c,k,b⟩ T _ (TT.out.below B0.out) hsz
 have HC' :Hid _:=HC
 clear HC;show Calls Tryz.prog 35 #[.agg #[.bool lf,p,c,k,b]] w _
 unfold okT;generalize Al T=d at *
 go_enter Tryz.func35,Tryz.ntmps35
 go_wp2_with fail;refine Calls.mono HC'.out ?_
 rintro e w1 ⟨rfl,hb1⟩
 have B1:Hid (Below w.heap.size w w1):=Below.and B0.out hb1
 clear hb1 B0;go_wp2;go_ret;exact⟨rfl,B1.out⟩

def WI (g:FuncId) (n:Nat):Prop:=∀(x:TV) (T:Tr) (w:World),AO n w x T->AU n T<=1099511627776→
  Calls Tryz.prog g #[x.val] w fun e w' =>e= .returned (.tuple #[.int .i64 (Vc n T:Nat), .int .i64 (Wb n T:Nat)])/\Below w.heap.size w w'
end
section
open Go.RowKit

def AH (l:List Int) (k:Int):Nat:=(l.takeWhile fun c=>decide (c<=k)).length
theorem Qa {l:List Int} {k:Int} {n:Nat} (hn:n<=l.length) (h:∀i,i<n->iAt l i<=k) (h2:n<l.length->¬iAt l n<=k):AH l k=n:=by
 induction l generalizing n with
 |nil=>simp at hn;subst hn;rfl
 |cons a l ih=>
  cases n with
  |zero=>
   have:=h2 (by simp)
   simp only[iAt,List.getD_cons_zero] at this
   simp[AH,this]
  |succ n=>
   have ha:=h 0 (by omega)
   simp only[iAt,List.getD_cons_zero] at ha
   have:=ih (n:=n) (by simpa using hn) (fun i hi=>by simpa[iAt] using h (i+1) (by omega)) (fun hl=>by simpa[iAt] using h2 (by simpa using hl))
   simp only[AH] at this ⊢
   rw[List.takeWhile_cons_of_pos (by simpa using ha),List.length_cons,this]
theorem Gr (l:List Int) (k:Int):AH l k<=l.length:=by
 unfold AH;exact(List.takeWhile_sublist _).length_le

def WJ (T:Tr) (k:Int):Int:=if T.leaf=true∨okT T=false then -1 else (AH T.cuts k:Nat)
end
section
open Go.RowKit

def Rr:Nat->World->Nat->TV->Tr->Prop
 |0,_,_,_,_=>False
 | n + 1, w, base, x, T => x.lf = T.leaf ∧ w.ownsRow base 41 2 x.p T.pairs.length (Aq T.pairs) ∧ w.ownsRow base 3 1 x.c T.cuts.length (Ad T.cuts) ∧ w.ownsRow base 35 3 x.b T.buf.length (Af T.buf) ∧
   ∃xs:List TV,xs.length=T.kids.length/\w.ownsRow base 30 5 x.k xs.length (Ao xs)/\∀i,i<xs.length->Rr n w base (Ay xs i) (Ba T i)

def WB (n:Nat) (w:World) (base:Nat) (v:Value) (ts:List Tr):Prop:=
 ∃xs:List TV,xs.length=ts.length/\w.ownsRow base 30 5 v xs.length (Ao xs)/\∀i,i<xs.length->Rr n w base (Ay xs i) (ts.getD i Am)
theorem Tryz.info3:(Tryz.prog.info? 3).map (fun i=>(i.zero,i.size,i.bytes))=some (some (.int .i64 0),1,8):=by kernel_rfl
theorem Tryz.info30:(Tryz.prog.info? 30).map (fun i=>(i.zero,i.size,i.bytes))=some (some (.agg #[.bool false, .slice none 0 0, .slice none 0 0, .slice none 0 0, .slice none 0 0]),5,104):=by kernel_rfl

def WD (l:List Int) (k:Nat):List Int:=l.take k++List.replicate (l.length-k) 0
theorem S8 (l:List Int) (i:Nat) (x:Int):(Ad l).set i (.int .i64 x)=Ad (l.set i x):=by simp[Ad,List.map_set]
end
section
open Go.RowKit

theorem AO.shape:∀ {n:Nat} {w:World} {x:TV} {T:Tr},AO n w x T->∃(a1 a2 a3 a4:Option Addr) (c1 c2 c3 c4:Nat),x=⟨T.leaf, .slice a1 T.pairs.length c1, .slice a2 T.cuts.length c2, .slice a3 T.kids.length c3, .slice a4 T.buf.length c4⟩
 |0,_,_,_,h=>h.elim
 |_+1,_,⟨lf,p,c,k,b⟩,T,⟨h1,h2,h3,h4,xs,h5,h6,h7⟩=>by
  simp only at h1 h2 h3 h4 h6
  obtain⟨a1,c1,rfl,_⟩:=h2.len
  obtain⟨a2,c2,rfl,_⟩:=h3.len
  obtain⟨a4,c4,rfl,_⟩:=h4.len
  obtain⟨a3,c3,rfl,_⟩:=h6.len
  subst h1;exact⟨a1,a2,a3,a4,c1,c2,c3,c4,by rw[h5]⟩
end
section
open Go.RowKit

def Cf (t:TypeId) (u:World) (B:Nat) (A:Array Value):Prop:=u.heap[B]? =some (.cells A t (0,0))
theorem Cf.step {t:TypeId} {u w' :World} {B:Nat} {A:Array Value} (h:Cf t u B A) (hb:Below u.heap.size u w'):Cf t w' B A:=
 (hb.block _ (Array.getElem?_eq_some_iff.1 h).1).trans h
theorem Cf.cells {t:TypeId} {u:World} {B:Nat} {A:Array Value} (h:Cf t u B A):∀j,u.cell? ⟨B,j,none⟩=A[j]? :=fun j=>cell_of_row u B j A t (0,0) h
theorem Cf.start (t:TypeId) (w:World) (A:Array Value):Cf t (w.alloc (.cells A t)) w.heap.size A:=heap_alloc_new w _
theorem BK (w:World) (o:Obj):Below w.heap.size w (w.alloc o):=(Below.refl _ _).alloc (Nat.le_refl _) _

def BP (T:Tr):Int:=if T.leaf=true then (if T.cuts.length=0/\T.kids.length=0/\T.buf.length=0 then 1 else 0) else (if T.pairs.length=0 then 2 else 0)
theorem KG {T:Tr} (h:T.leaf=true) (hb:T.cuts.length=0/\T.kids.length=0/\T.buf.length=0):BP T=1:=by rw[BP,if_pos h,if_pos hb]
theorem H8 {T:Tr} (h:T.leaf=true) (hb:¬(T.cuts.length=0/\T.kids.length=0/\T.buf.length=0)):BP T=0:=by rw[BP,if_pos h,if_neg hb]
theorem LK {T:Tr} (h:T.leaf=false) (hb:T.pairs.length=0):BP T=2:=by rw[BP,if_neg (by rw[h];decide),if_pos hb]
theorem H3 {T:Tr} (h:T.leaf=false) (hb:¬T.pairs.length=0):BP T=0:=by rw[BP,if_neg (by rw[h];decide),if_neg hb]

theorem K8 (n:Nat) (x:TV) (T:Tr) (w:World) (ht:AO n w x T) :
  Calls Tryz.prog 52 #[x.val] w fun e w' =>e= .returned (.int .i64 (BP T))/\Below w.heap.size w w' :=by
 obtain⟨a1,a2,a3,a4,q1,q2,q3,q4,rfl⟩:=ht.shape
 show Calls Tryz.prog 52 #[.agg #[.bool T.leaf, .slice a1 T.pairs.length q1, .slice a2 T.cuts.length q2, .slice a3 T.kids.length q3, .slice a4 T.buf.length q4]] w _
 have K1:Hid (T.leaf=true->(T.cuts.length=0/\T.kids.length=0/\T.buf.length=0)->BP T=1):=KG
 have K2:Hid (T.leaf=true->¬(T.cuts.length=0/\T.kids.length=0/\T.buf.length=0)->BP T=0):=H8
 have K3:Hid (T.leaf=false->T.pairs.length=0->BP T=2):=LK
 have K4:Hid (T.leaf=false->¬T.pairs.length=0->BP T=0):=H3
 clear ht;generalize BP T=R at *
 generalize T.pairs.length=n1 at *
 generalize T.cuts.length=n2 at *
 generalize T.kids.length=n3 at *
 generalize T.buf.length=n4 at *
 cases hlf:T.leaf
 ·cases h1:((n1:Int)==0)
  ·have E:=K4.out hlf (by rw[beq_eq_false_iff_ne] at h1;omega)
   subst E
   cases h2:((n2:Int)==0)<;>cases h3:((n3:Int)==0)<;>cases h4:((n4:Int)==0)
   all_goals
    go_enter Tryz.func52,Tryz.ntmps52
    go_wp2;go_ret;exact⟨rfl,BK _ _⟩
  ·have E:=K3.out hlf (by rw[beq_iff_eq] at h1;omega)
   subst E
   cases h2:((n2:Int)==0)<;>cases h3:((n3:Int)==0)<;>cases h4:((n4:Int)==0)
   all_goals
    go_enter Tryz.func52,Tryz.ntmps52
    go_wp2;go_ret;exact⟨rfl,BK _ _⟩
 ·cases h2:((n2:Int)==0)
  ·have E:=K2.out hlf (by rw[beq_eq_false_iff_ne] at h2;omega)
   subst E
   cases h3:((n3:Int)==0)<;>cases h4:((n4:Int)==0)
   all_goals
    go_enter Tryz.func52,Tryz.ntmps52
    go_wp2;go_ret;exact⟨rfl,BK _ _⟩
  ·cases h3:((n3:Int)==0)
   ·have E:=K2.out hlf (by rw[beq_eq_false_iff_ne] at h3;omega)
    subst E
    cases h4:((n4:Int)==0)
    all_goals
     go_enter Tryz.func52,Tryz.ntmps52
     go_wp2;go_ret;exact⟨rfl,BK _ _⟩
   ·cases h4:((n4:Int)==0)
    ·have E:=K2.out hlf (by rw[beq_eq_false_iff_ne] at h4;omega)
     subst E;go_enter Tryz.func52,Tryz.ntmps52
     go_wp2;go_ret;exact⟨rfl,BK _ _⟩
    ·have E:=K1.out hlf (by rw[beq_iff_eq] at h2 h3 h4;omega)
     subst E;go_enter Tryz.func52,Tryz.ntmps52
     go_wp2;go_ret;exact⟨rfl,BK _ _⟩

abbrev NN (kd lo hi ab:Int):Value:= .agg #[.int .i64 kd, .int .i64 lo, .int .i64 hi, .int .i64 ab]
abbrev Dl (kd lo hi ab:Int) (x:TV):Value:= .agg #[.int .i64 kd, .int .i64 lo, .int .i64 hi, .int .i64 ab, .bool x.lf,x.p,x.c,x.k,x.b]

theorem JY (kd lo hi ab:Int) (w:World) :
  Calls Tryz.prog 53 #[NN kd lo hi ab] w fun e w' =>e= .returned (.bool (decide (7<=ab)))/\Below w.heap.size w w' :=by
 go_enter Tryz.func53,Tryz.ntmps53
 go_wp2;go_ret;exact⟨rfl,BK _ _⟩

theorem Ki (kd lo hi ab k:Int) (w:World) :
  Calls Tryz.prog 91 #[NN kd lo hi ab, .int .i64 k] w fun e w' =>e= .returned (.bool (inB k lo (hi-1)))/\Below w.heap.size w w' :=by
 by_cases h1:lo<=k
 ·by_cases h2:k<hi
  ·have E:Hid (inB k lo (hi-1)=true):=Fc h1 (by omega)
   go_enter Tryz.func91,Tryz.ntmps91
   go_wp2;go_ret;exact⟨AM E.out.symm,BK _ _⟩
  ·have E:Hid (inB k lo (hi-1)=false):=Ft (by omega)
   go_enter Tryz.func91,Tryz.ntmps91
   go_wp2;go_ret;exact⟨AM E.out.symm,BK _ _⟩
 ·have E:Hid (inB k lo (hi-1)=false):=EO h1
  go_enter Tryz.func91,Tryz.ntmps91
  go_wp2;go_ret;exact⟨AM E.out.symm,BK _ _⟩

theorem Gx (kd lo hi ab k:Int) (w:World) :
  Calls Tryz.prog 92 #[NN kd lo hi ab, .int .i64 k] w fun e w' =>e= .returned (.bool (inB k (lo+1) (hi-1)))/\Below w.heap.size w w' :=by
 by_cases h1:lo<k
 ·by_cases h2:k<hi
  ·have E:Hid (inB k (lo+1) (hi-1)=true):=Fc (by omega) (by omega)
   go_enter Tryz.func92,Tryz.ntmps92
   go_wp2;go_ret;exact⟨AM E.out.symm,BK _ _⟩
  ·have E:Hid (inB k (lo+1) (hi-1)=false):=Ft (by omega)
   go_enter Tryz.func92,Tryz.ntmps92
   go_wp2;go_ret;exact⟨AM E.out.symm,BK _ _⟩
 ·have E:Hid (inB k (lo+1) (hi-1)=false):=EO (by omega)
  go_enter Tryz.func92,Tryz.ntmps92
  go_wp2;go_ret;exact⟨AM E.out.symm,BK _ _⟩
end
end Go.Proofs.YtadmomgdacfgpaaGreat
