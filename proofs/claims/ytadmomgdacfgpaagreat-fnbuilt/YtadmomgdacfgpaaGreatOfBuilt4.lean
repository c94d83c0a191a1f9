/-
  The model's drawing of maps, and of what chapter 1's functions are asked.
  The contract of the model's DrawBuild.
  Lists of what was done last as rows of cells; the laws' own functions on them, and slices.Equal of two.
  slices.Equal of two lists: pairs, and what was done; the model's l4SameMap.
  The laws' own samePairs.
  The laws' own big.
  Trees of messages as plain data, and what it is that a struct's value leads to one.
  What chapter 2 says of trees, as plain functions.
  Contracts of MapOk, the model's and the program's.
-/
import Derived.Test.YtadmomgdacfgpaaGreatOfBuilt3
import Derived.Laws.StructEq
import Derived.BigQuiet
import Derived.Deep.QuietTactic
import Derived.Test.YtadmomgdacfgpaaGreatOfBuilt2
namespace Go.Proofs.YtadmomgdacfgpaaGreat
set_option maxRecDepth 100000
set_option maxHeartbeats 8000000
section
open Go.RowKit

theorem FM {w w' :World} {base e size n C:Nat} {v:Value} {xs:List Value} (h:w.ownsRow base e size v n xs) (hc:Chg (fun g=>g=C) w w') (hC:C<base):w'.ownsRow base e size v n xs:=
 AN h hc (fun g hg e=>by have:=(h.lt g hg).1;omega)

theorem Iu (C:Nat) (most:Int) (w:World) (hc:Cur w C) (hm0:0<=most) (hm:most<=1000) :
  Calls Tryz.prog 42 #[.pointer (some ⟨C,0,none⟩), .int .i64 most] w fun e w' =>∃(v:Value) (l:PL),e= .returned v/\(l.length:Int)<=most/\w'.ownsRow w.heap.size 41 2 v l.length (Ai l)/\Cur w' C/\Chg (fun g=>g=C) w w' :=by
 have hCw:=hc.lt
 have CU:Hid (Cur w C):=hc
 clear hc;go_enter Tryz.func42,Tryz.ntmps42
 go_wp2_with fail;refine(DQ C (most+1) _ (CU.out.alloc _) (by omega)).mono ?_
 rintro e w1 ⟨n,rfl,hn0,hn1,_,c1,g1⟩
 have hnm:n<=most:=by have:=hn1 (by omega);omega
 obtain⟨nn,rfl⟩:=Int.eq_ofNat_of_zero_le hn0
 have O1:w1.ownsRow w.heap.size 41 2 (.slice (some ⟨w.heap.size,0,none⟩) 0 0) 0 []:=FM (CY w w.heap.size 41 2 (Nat.le_refl _)) g1 hCw
 have START:Hid _:=And.intro c1 (And.intro (((Chg.refl _ _).alloc _).trans g1 (fun _ _ e=>e)) O1)
 clear c1 g1 O1 hn1;go_wp2;go_loopw [5,7] (fun out i wr=>∃(k:Nat) (l:PL),k<=nn/\i= .int .i64 k/\l.length<=k/\Asc l/\wr.ownsRow w.heap.size 41 2 out l.length (Ai l)/\Cur wr C/\Chg (fun g=>g=C) w wr)
  (fun _ i _=>nn-(intOf i).toNat)
 case atStart=>exact⟨0,[],Nat.zero_le _,rfl,Nat.le_refl _,List.Pairwise.nil,START.out.2.2,START.out.1,START.out.2.1⟩
 case round=>
  obtain⟨k,l,hk,rfl,hml,hasc,hown,hcur,hch⟩:=hrel
  clear START;by_cases hlt:k<nn
  ·have INFO:Hid _:=And.intro hown (And.intro hcur (And.intro hch hasc))
   clear hown hcur hch hasc;go_wp2_with fail;refine(Nd C _ INFO.out.2.1).mono ?_
   rintro e w2 ⟨x,rfl,hx0,hx1,c2,g2⟩
   have I2:Hid _:=And.intro (FM INFO.out.1 g2 hCw) (And.intro c2 (INFO.out.2.2.1.trans g2 (fun _ _ e=>e)))
   clear c2 g2;go_wp2_with fail;refine(DQ C 50 _ I2.out.2.1 (by decide)).mono ?_
   rintro e w3 ⟨y,rfl,hy0,hy1,_,c3,g3⟩
   have hy50:=hy1 (by decide)
   have I3:Hid _:=And.intro (FM I2.out.1 g3 hCw) (And.intro c3 (I2.out.2.2.trans g3 (fun _ _ e=>e)))
   clear c3 g3 hy1 I2;go_wp2_with fail;refine(JQ _ l _ _ _ (Row.of_owns I3.out.1) (by omega) INFO.out.2.2.2).mono ?_
   rintro e w4 ⟨v4,rfl,o4,b4⟩
   have FIN:Hid _:=And.intro (AE o4 I3.out.2.2.size) (And.intro (I3.out.2.1.below b4) (I3.out.2.2.trans (Chg.of_below (F:=fun g=>g=C) b4) (fun _ _ e=>e)))
   have AF:Hid _:=Jb INFO.out.2.2.2 x (y-9)
   have hpl:=Hs l x (y-9)
   clear o4 b4;go_wp2;go_roundw
   case rel=>exact⟨k+1,B9 l x (y-9),by omega,by go_num,by omega,AF.out,FIN.out.1,FIN.out.2.1,FIN.out.2.2⟩
   case measure=>simp[intOf];omega
  ·have FIN:Hid _:=And.intro hown (And.intro hcur hch)
   have hle:(l.length:Int)<=most:=by omega
   clear hown hcur hch hasc;go_wp2;go_ret;exact⟨_,l,rfl,hle,FIN.out.1,FIN.out.2.1,FIN.out.2.2⟩

theorem Jv (C:Nat) (w:World) (hc:Cur w C) :
  Calls Tryz.prog 41 #[.pointer (some ⟨C,0,none⟩)] w fun e w' =>∃(v:Value) (l:PL),e= .returned v/\l.length<=9/\w'.ownsRow w.heap.size 41 2 v l.length (Ai l)/\Cur w' C/\Chg (fun g=>g=C) w w' :=by
 obtain⟨i0,hi,hz0,hz1,hz2⟩:=info_parts Tryz.info41
 have hCw:=hc.lt
 have CU:Hid (Cur w C):=hc
 clear hc;go_enter Tryz.func41,Tryz.ntmps41
 go_wp2_with fail;refine(Iu C 8 _ CU.out (by decide) (by decide)).mono ?_
 rintro e w1 ⟨v1,l,rfl,hl,o1,c1,g1⟩
 have I1:Hid _:=And.intro o1 (And.intro c1 g1)
 clear o1 c1 g1;go_wp2_with fail;refine(DQ C 15 _ I1.out.2.1 (by decide)).mono ?_
 rintro e w2 ⟨x,rfl,hx0,hx1,_,c2,g2⟩
 have I2:Hid _:=And.intro (FM I1.out.1 g2 hCw) (And.intro c2 (I1.out.2.2.trans g2 (fun _ _ e=>e)))
 clear c2 g2 hx1 I1;have HR:Hid _:=Bd (n:=l.length) (bytes:=16) (by omega) (by decide)
 rcases(show x=0∨x=1∨(x≠0/\x≠1) by omega) with rfl|rfl|⟨h0,h1⟩
 ·go_wp2_with fail;refine(DQ C 9 _ I2.out.2.1 (by decide)).mono ?_
  rintro e w3 ⟨y,rfl,hy0,hy1,_,c3,g3⟩
  have O3:=FM I2.out.1 g3 hCw
  have I3:Hid _:=And.intro c3 (I2.out.2.2.trans g3 (fun _ _ e=>e))
  have hbs:w.heap.size<=w3.heap.size:=I3.out.2.size
  clear c3 g3 hy1;go_wp2_with (at_builtin;refine Bq w3 rfl _ _ 26 rfl w.heap.size 41 i0 _ 2 16 Tryz.underlying26 hi hz0 hz1 hz2 rfl (by decide) v1 _ _ rfl O3 [.int .i64 y, .int .i64 0] rfl rfl (Er _ _) HR.out.1 HR.out.2 hbs ?_)
  intro v4 w4 ho4 hg4 _;rw[Dg] at ho4
  have FIN:Hid _:=And.intro ho4 (And.intro (I3.out.1.chg hg4 (fun g e=>by have:=(O3.lt g e).1;omega)) (I3.out.2.trans hg4 (fun g hg e=>by have:=(O3.lt g e).1;omega)))
  clear ho4 hg4 O3;go_wp2;go_ret;exact⟨_,l++[(y,0)],rfl,by simp;omega,by rw[List.length_append];exact FIN.out.1,FIN.out.2.1,FIN.out.2.2⟩
 ·have hd:C≠w2.heap.size:=by have:=I2.out.2.1.lt;omega
  go_wp2_with fail;refine(ID C w2.heap.size [1000000000,1000000001] (by decide) (by decide) _ (I2.out.2.1.alloc _) (heap_alloc_new _ _) (fun e=>hd e.symm)).mono ?_
  rintro e w3 ⟨y,rfl,_,c3,g3⟩
  have O3:=FM (I2.out.1.alloc _) g3 hCw
  have I3:Hid _:=And.intro c3 ((I2.out.2.2.alloc _).trans g3 (fun _ _ e=>e))
  have hbs:w.heap.size<=w3.heap.size:=I3.out.2.size
  clear c3 g3;go_wp2_with (at_builtin;refine Bq w3 rfl _ _ 26 rfl w.heap.size 41 i0 _ 2 16 Tryz.underlying26 hi hz0 hz1 hz2 rfl (by decide) v1 _ _ rfl O3 [.int .i64 999, .int .i64 y] rfl rfl (Er _ _) HR.out.1 HR.out.2 hbs ?_)
  intro v4 w4 ho4 hg4 _;rw[Dg] at ho4
  have FIN:Hid _:=And.intro ho4 (And.intro (I3.out.1.chg hg4 (fun g e=>by have:=(O3.lt g e).1;omega)) (I3.out.2.trans hg4 (fun g hg e=>by have:=(O3.lt g e).1;omega)))
  clear ho4 hg4 O3;go_wp2;go_ret;exact⟨_,l++[(999,y)],rfl,by simp;omega,by rw[List.length_append];exact FIN.out.1,FIN.out.2.1,FIN.out.2.2⟩
 ·have e0:(x==0)=false:=by rw[beq_eq_false_iff_ne];exact h0
  have e1:(x==1)=false:=by rw[beq_eq_false_iff_ne];exact h1
  clear h0 h1;go_wp2;go_ret;exact⟨_,l,rfl,by omega,I2.out.1,I2.out.2.1,I2.out.2.2⟩
end
section
open Go.RowKit

theorem MQ (v:Value) (bs:List Int) (w:World) (hc:Sy w v bs) (hn:bs.length<=1048576) :
  Calls Tryz.prog 16 #[v] w fun e w' =>∃(v1:Value) (l:PL),e= .returned v1/\l.length<=40/\w'.ownsRow w.heap.size 41 2 v1 l.length (Ai l)/\Below w.heap.size w w' :=by
 go_enter Tryz.func16,Tryz.ntmps16
 go_wp2_with fail;refine(UM v bs _ hc hn).mono ?_
 rintro e w1 ⟨rfl,c1,hlt,b1⟩
 have I1:Hid _:=And.intro c1 b1
 clear c1 b1;go_wp2_with fail;refine(Ld w.heap.size 4 _ I1.out.1 (by decide)).mono ?_
 rintro e w2 ⟨x,rfl,c2,g2⟩
 have B2:Below w.heap.size w w2:=I1.out.2.trans (g2.below (fun g _ e=>by omega) (by omega))
 have I2:Hid _:=And.intro c2 B2
 have h2:w.heap.size<=w2.heap.size:=B2.size
 clear c2 g2 B2 I1
 cases x with
 |true=>
  go_wp2_with fail;refine(Jv w.heap.size _ I2.out.1).mono ?_
  rintro e w3 ⟨v1,l,rfl,hl,o3,c3,g3⟩
  have B3:Below w.heap.size w w3:=I2.out.2.trans (g3.below (fun g _ e=>by omega) (by omega))
  have FIN:Hid _:=And.intro (AE o3 h2) B3
  clear o3 c3 g3 B3;go_wp2;go_ret;exact⟨v1,l,rfl,by omega,FIN.out.1,FIN.out.2⟩
 |false=>
  go_wp2_with fail;refine(Iu w.heap.size 40 _ I2.out.1 (by decide) (by decide)).mono ?_
  rintro e w3 ⟨v1,l,rfl,hl,o3,c3,g3⟩
  have B3:Below w.heap.size w w3:=I2.out.2.trans (g3.below (fun g _ e=>by omega) (by omega))
  have FIN:Hid _:=And.intro (AE o3 h2) B3
  clear o3 c3 g3 B3;go_wp2;go_ret;exact⟨v1,l,rfl,by omega,FIN.out.1,FIN.out.2⟩
end
section
open Go.RowKit

abbrev Dn:=Int × Int × Int × Bool
abbrev DL:=List Dn
abbrev dn0:Dn:=(0,0,0,false)
def dC (l:DL) (i:Nat):Int:=(l.getD i dn0).1
def dS (l:DL) (i:Nat):Int:=(l.getD i dn0).2.1
def dV (l:DL) (i:Nat):Int:=(l.getD i dn0).2.2.1
def dH (l:DL) (i:Nat):Bool:=(l.getD i dn0).2.2.2
def Xz (l:DL):List Value:=l.flatMap fun m=>[.int .i64 m.1, .int .i64 m.2.1, .int .i64 m.2.2.1, .bool m.2.2.2]
def Xn (p q:Dn):Bool:=decide (p=q)
abbrev dnV (a b c:Int) (d:Bool):Value:= .agg #[.int .i64 a, .int .i64 b, .int .i64 c, .bool d]

def Xk (l:DL) (k:Nat):DL:=l.take k++List.replicate (l.length-k) dn0
end
section
open Go.RowKit

theorem Tryz.neqP (a b c d:Int) (w:World):(binOp .neq 41 (.agg #[.int .i64 a, .int .i64 b]) (.agg #[.int .i64 c, .int .i64 d])).run Tryz.prog w= .ok (.bool (!(decide (a=c/\b=d)))) w:=by
 have u3:=Tryz.underlying3
 have a3:=Tryz.isAgg3
 have z3:=Tryz.sizeOf3
 have hS:Tryz.prog.underlying 41=some (.struct (Tryz.prog.fieldsOf 41)):=by kernel_rfl
 have hp:Tryz.prog.stoodInHeld 41=false:=by kernel_rfl
 rw[run_neq_struct,show(10000:Nat)=9999+1 from rfl,run_equalIn_agg w 9999 41 _ _ hS hp]
 simp only[Program.fieldsOf,Tryz.underlying41]
 go_simp
 by_cases h1:a=c<;>by_cases h2:b=d<;>simp[h1,h2]
theorem Tryz.guardP:Tryz.prog.eqGuardType Tryz.prog.depth 41=false:=by kernel_rfl

theorem Q6 {l1 l2:PL} (hl:l1.length=l2.length) (h:∀i,i<l1.length->kOf l1 i=kOf l2 i/\vOf l1 i=vOf l2 i):l1=l2:=by
 apply List.ext_getElem hl
 intro i h1 h2;have:=h i h1
 simp only[kOf,vOf,List.getD,List.getElem?_eq_getElem h1,List.getElem?_eq_getElem h2,Option.getD_some] at this
 exact Prod.ext this.1 this.2

theorem Rf (v1 v2:Value) (l1 l2:PL) (w:World) (h1:Row w v1 l1.length (Ai l1)) (h2:Row w v2 l2.length (Ai l2)) :
  Calls Tryz.prog 44 #[v1,v2] w fun e w' =>e= .returned (.bool (decide (l1=l2)))/\Below w.heap.size w w' :=by
 obtain⟨a,b,off,cap,rfl,hcap,hmax,ha,hx0,hx1⟩:=h1.pairs
 obtain⟨a2,b2,off2,cap2,rfl,hcap2,hmax2,ha2,hy0,hy1⟩:=h2.pairs
 unfold maxLen at hmax hmax2;by_cases hl:l1.length=l2.length
 ·have hne:((l1.length:Int) != (l2.length:Int))=false:=by rw[bne_eq_false_iff_eq];omega
  have HL:Hid (l1.length=l2.length):=hl
  have hl2:l1.length<=l2.length:=by omega
  clear hl;go_enter Tryz.func44,Tryz.ntmps44
  go_wp2;go_loopw [5,13] (fun _ i wr=>∃k:Nat,k<=l1.length/\i= .int .i64 k/\(∀i,i<k->kOf l1 i=kOf l2 i/\vOf l1 i=vOf l2 i)/\Below w.heap.size w wr)
   (fun _ i _=>l1.length-(intOf i).toNat)
  case atStart=>exact⟨0,Nat.zero_le _,rfl,fun i hi=>absurd hi (Nat.not_lt_zero _),Below.refl _ _⟩
  case round=>
   obtain⟨k,hkl,rfl,hall,hb⟩:=hrel
   have ALL:Hid (∀i,i<k->kOf l1 i=kOf l2 i/\vOf l1 i=vOf l2 i):=hall
   clear hall;by_cases hlt:k<l1.length
   ·have hal:=ha (by omega)
    subst hal;have hal2:=ha2 (by omega)
    subst hal2;have hlt2:k<l2.length:=by omega
    have d0:=(hb.cell (by exact Aa (hx0 k hlt))).trans (hx0 k hlt)
    have d1:=(hb.cell (by exact Aa (hx1 k hlt))).trans (hx1 k hlt)
    have e0:=(hb.cell (by exact Aa (hy0 k hlt2))).trans (hy0 k hlt2)
    have e1:=(hb.cell (by exact Aa (hy1 k hlt2))).trans (hy1 k hlt2)
    have hg:=Tryz.guardP
    have hq:=Tryz.neqP (kOf l1 k) (vOf l1 k) (kOf l2 k) (vOf l2 k)
    clear ha ha2 hx0 hx1 hy0 hy1;by_cases he:kOf l1 k=kOf l2 k/\vOf l1 k=vOf l2 k
    ·rw[decide_eq_true he,Bool.not_true] at hq
     have EQ:Hid _:=he
     clear he;go_wp2;go_quiet (fail)
     go_wp2;go_roundw
     case rel=>exact⟨k+1,by omega,by go_num,fun i hi=>if h:i<k then ALL.out i h else by rw[show i=k by omega];exact EQ.out,below_drewN hb _⟩
     case measure=>simp[intOf];omega
    ·rw[decide_eq_false he,Bool.not_false] at hq
     have NE:Hid (decide (l1=l2)=false):=decide_eq_false (fun e=>he (by subst e;exact⟨rfl,rfl⟩))
     clear he;go_wp2;go_quiet (fail)
     go_wp2;go_ret;exact⟨AG NE.out.symm,below_drewN hb _⟩
   ·go_wp2;go_ret;refine⟨AG ?_,hb⟩
    symm
    rw[decide_eq_true_iff]
    exact Q6 HL.out (fun i hi=>ALL.out i (by omega))
 ·have hne:((l1.length:Int) != (l2.length:Int))=true:=by rw[bne_iff_ne];omega
  go_enter Tryz.func44,Tryz.ntmps44
  go_wp2;go_ret;refine⟨AG ?_,Below.refl _ _⟩
  symm
  rw[decide_eq_false_iff_not]
  intro h;exact hl (by rw[h])
end
section
open Go.RowKit

theorem Iv (v1 v2:Value) (l1 l2:PL) (w:World) (h1:Row w v1 l1.length (Ai l1)) (h2:Row w v2 l2.length (Ai l2)) :
  Calls Tryz.prog 11 #[v1,v2] w fun e w' =>e= .returned (.bool (decide (l1=l2)))/\Below w.heap.size w w' :=by
 obtain⟨a,b,off,cap,rfl,hcap,hmax,ha,hk,hv⟩:=h1.pairs
 obtain⟨a2,b2,off2,cap2,rfl,hcap2,hmax2,ha2,hk2,hv2⟩:=h2.pairs
 unfold maxLen at hmax hmax2;by_cases hl:l1.length=l2.length
 ·have hne:((l1.length:Int) != (l2.length:Int))=false:=by rw[bne_eq_false_iff_eq];omega
  have HL:Hid (l1.length=l2.length):=hl
  have hl2:l1.length<=l2.length:=by omega
  clear hl;go_enter Tryz.func11,Tryz.ntmps11
  go_wp2;go_loopw [5] (fun i wr=>∃k:Nat,k<=l1.length/\i= .int .i64 k/\(∀i,i<k->kOf l1 i=kOf l2 i/\vOf l1 i=vOf l2 i)/\Below w.heap.size w wr)
   (fun i _=>l1.length-(intOf i).toNat)
  case atStart=>exact⟨0,Nat.zero_le _,rfl,fun i hi=>absurd hi (Nat.not_lt_zero _),Below.refl _ _⟩
  case round=>
   obtain⟨k,hkl,rfl,hall,hb⟩:=hrel
   have ALL:Hid (∀i,i<k->kOf l1 i=kOf l2 i/\vOf l1 i=vOf l2 i):=hall
   clear hall;by_cases hlt:k<l1.length
   ·have hal:=ha (by omega)
    subst hal;have hal2:=ha2 (by omega)
    subst hal2;have hlt2:k<l2.length:=by omega
    have d1:=(hb.cell (by exact Aa (hk k hlt))).trans (hk k hlt)
    have d2:=(hb.cell (by exact Aa (hv k hlt))).trans (hv k hlt)
    have d4:=(hb.cell (by exact Aa (hk2 k hlt2))).trans (hk2 k hlt2)
    have d5:=(hb.cell (by exact Aa (hv2 k hlt2))).trans (hv2 k hlt2)
    have hg:=Tryz.guardP
    have hq:=Tryz.neqP (kOf l1 k) (vOf l1 k) (kOf l2 k) (vOf l2 k)
    clear hk hv ha hk2 hv2 ha2;by_cases he:kOf l1 k=kOf l2 k/\vOf l1 k=vOf l2 k
    ·rw[decide_eq_true he,Bool.not_true] at hq
     have EQ:Hid _:=he
     clear he;go_wp2;go_quiet (fail)
     go_wp2;go_roundw
     case rel=>exact⟨k+1,by omega,by go_num,fun i hi=>if h:i<k then ALL.out i h else by rw[show i=k by omega];exact EQ.out,below_drewN hb _⟩
     case measure=>simp[intOf];omega
    ·rw[decide_eq_false he,Bool.not_false] at hq
     have NE:Hid (decide (l1=l2)=false):=decide_eq_false (fun e=>he (by subst e;exact⟨rfl,rfl⟩))
     clear he;go_wp2;go_quiet (fail)
     go_wp2;go_ret;exact⟨AG NE.out.symm,below_drewN hb _⟩
   ·go_wp2;go_ret;refine⟨AG ?_,hb⟩
    symm
    rw[decide_eq_true_iff]
    exact Q6 HL.out (fun i hi=>ALL.out i (by omega))
 ·have hne:((l1.length:Int) != (l2.length:Int))=true:=by rw[bne_iff_ne];omega
  go_enter Tryz.func11,Tryz.ntmps11
  go_wp2;go_ret;refine⟨AG ?_,Below.refl _ _⟩
  symm
  rw[decide_eq_false_iff_not]
  intro h;exact hl (by rw[h])
end
section
open Go.RowKit

theorem Sn (a:Option Addr) (n cap:Nat) (hn:n<=maxLen) (w:World) :
  Calls Tryz.prog 5 #[.slice a n cap] w fun e w' =>e= .returned (.bool (decide (n>1048576)))/\w' =w:=by
 unfold maxLen at hn;by_cases h:n>1048576
 ·have hd:decide ((n:Int)>1048576)=true:=decide_eq_true (by omega)
  go_enter Tryz.func5,Tryz.ntmps5
  go_wp2;go_ret;exact⟨AG (by simp[h];try omega),rfl⟩
 ·go_enter Tryz.func5,Tryz.ntmps5
  go_wp2;go_ret;exact⟨AG (by simp[h];try omega),rfl⟩
end
section
open Go.RowKit

structure Tr where
 leaf:Bool
 pairs:List (Int × Int)
 cuts:List Int
 kids:List Tr
 buf:ML

structure TV where
 lf:Bool
 p:Value
 c:Value
 k:Value
 b:Value

def TV.cells (x:TV):List Value:=[.bool x.lf,x.p,x.c,x.k,x.b]
abbrev TV.val (x:TV):Value:= .agg #[.bool x.lf,x.p,x.c,x.k,x.b]
def Ap (l:List TV):List Value:=l.flatMap TV.cells
def Ad (l:List Int):List Value:=l.map (.int .i64)

def An:Tr:=⟨true,[],[],[],[]⟩
def Xv:TV:=⟨false, .slice none 0 0, .slice none 0 0, .slice none 0 0, .slice none 0 0⟩
def AQ (T:Tr) (i:Nat):Tr:=T.kids.getD i An
def XD (T:Tr) (i:Nat):Int:=T.cuts.getD i 0
def iAt (l:List Int) (i:Nat):Int:=l.getD i 0
def Az (l:List TV) (i:Nat):TV:=l.getD i Xv

theorem Bx (l:List Int):(Ad l).length=l.length:=by simp[Ad]
theorem Qw (l:List Int) (i:Nat) (h:i<l.length):(Ad l)[i]? =some (.int .i64 (iAt l i)):=by simp[Ad,iAt,List.getD,h]
theorem Fb (x:TV) (l:List TV):Ap (x::l)= .bool x.lf::x.p::x.c::x.k::x.b::Ap l:=rfl
theorem E7 (l m:List TV):Ap (l++m)=Ap l++Ap m:=by simp[Ap,List.flatMap_append]
theorem Bo (l:List TV):(Ap l).length=l.length*5:=by
 induction l with
 |nil=>rfl
 |cons a l ih=>rw[Fb];simp only[List.length_cons];omega
theorem F9 (l:List TV):∀i,i<l.length->(Ap l)[i*5]? =some (.bool (Az l i).lf)/\(Ap l)[i*5+1]? =some (Az l i).p/\(Ap l)[i*5+2]? =some (Az l i).c/\(Ap l)[i*5+3]? =some (Az l i).k/\(Ap l)[i*5+4]? =some (Az l i).b:=by
 induction l with
 |nil=>intro i h;simp at h
 |cons a l ih=>
  intro i h
  cases i with
  |zero=>simp[Fb,Az]
  |succ i=>
   have:=ih i (by simpa using h)
   rw[show(i+1)*5=i*5+1+1+1+1+1 by omega,Fb]
   rw[show i*5+1+1+1+1+1+1=(i*5+1)+1+1+1+1+1 by omega,show i*5+1+1+1+1+1+2=(i*5+2)+1+1+1+1+1 by omega,show i*5+1+1+1+1+1+3=(i*5+3)+1+1+1+1+1 by omega,show i*5+1+1+1+1+1+4=(i*5+4)+1+1+1+1+1 by omega]
   simpa[Az] using this
theorem Row.ints {w:World} {v:Value} {l:List Int} (h:Row w v l.length (Ad l)) :
  ∃(a:Option Addr) (b off cap:Nat),v= .slice a l.length cap/\l.length<=cap/\cap<=maxLen/\(0<l.length->a=some ⟨b,off,none⟩)∧
   (∀i,i<l.length->w.cell? ⟨b,off+i,none⟩=some (.int .i64 (iAt l i))):=by
 obtain⟨a,b,off,cap,h1,h2,h3,h4,h5,_⟩:=h
 exact⟨a,b,off,cap,h1,h2,h3,h4,fun i hi=>h5 _ _ (Qw l i hi)⟩
theorem Row.trees {w:World} {v:Value} {l:List TV} (h:Row w v l.length (Ap l)) :
  ∃(a:Option Addr) (b off cap:Nat),v= .slice a l.length cap/\l.length<=cap/\cap<=maxLen/\(0<l.length->a=some ⟨b,off,none⟩)∧
   (∀i,i<l.length->w.cell? ⟨b,off+i*5,none⟩=some (.bool (Az l i).lf))/\(∀i,i<l.length->w.cell? ⟨b,off+i*5+1,none⟩=some (Az l i).p)/\(∀i,i<l.length->w.cell? ⟨b,off+i*5+2,none⟩=some (Az l i).c)∧
   (∀i,i<l.length->w.cell? ⟨b,off+i*5+3,none⟩=some (Az l i).k)/\(∀i,i<l.length->w.cell? ⟨b,off+i*5+4,none⟩=some (Az l i).b):=by
 obtain⟨a,b,off,cap,h1,h2,h3,h4,h5,_⟩:=h
 exact⟨a,b,off,cap,h1,h2,h3,h4,fun i hi=>h5 _ _ (F9 l i hi).1,fun i hi=>h5 _ _ (F9 l i hi).2.1,fun i hi=>h5 _ _ (F9 l i hi).2.2.1,fun i hi=>h5 _ _ (F9 l i hi).2.2.2.1,fun i hi=>h5 _ _ (F9 l i hi).2.2.2.2⟩
theorem Row.len {w:World} {v:Value} {n:Nat} {xs:List Value} (h:Row w v n xs):∃(a:Option Addr) (cap:Nat),v= .slice a n cap/\n<=maxLen:=by
 obtain⟨a,b,off,cap,h1,h2,h3,_⟩:=h
 exact⟨a,cap,h1,Nat.le_trans h2 h3⟩

def AA:Nat->World->TV->Tr->Prop
 |0,_,_,_=>False
 | n + 1, w, x, T => x.lf = T.leaf ∧ Row w x.p T.pairs.length (Ai T.pairs) ∧ Row w x.c T.cuts.length (Ad T.cuts) ∧ Row w x.b T.buf.length (Af T.buf) ∧
   ∃xs:List TV,xs.length=T.kids.length/\Row w x.k xs.length (Ap xs)/\∀i,i<xs.length->AA n w (Az xs i) (AQ T i)

def KH (n:Nat) (w:World) (v:Value) (ts:List Tr):Prop:=
 ∃xs:List TV,xs.length=ts.length/\Row w v xs.length (Ap xs)/\∀i,i<xs.length->AA n w (Az xs i) (ts.getD i An)

theorem AA.below:∀ {n:Nat} {w w' :World} {x:TV} {T:Tr},AA n w x T->Below w.heap.size w w' ->AA n w' x T
 |0,_,_,_,_,h,_=>h
 |_+1,_,_,_,_,⟨h1,h2,h3,h4,xs,h5,h6,h7⟩,hb=>⟨h1,h2.below hb,h3.below hb,h4.below hb,xs,h5,h6.below hb,fun i hi=>(h7 i hi).below hb⟩
theorem AA.up:∀ {n:Nat} {w:World} {x:TV} {T:Tr},AA n w x T->AA (n+1) w x T
 |0,_,_,_,h=>h.elim
 |_+1,_,_,_,⟨h1,h2,h3,h4,xs,h5,h6,h7⟩=>⟨h1,h2,h3,h4,xs,h5,h6,fun i hi=>(h7 i hi).up⟩
theorem AA.parts {n:Nat} {w:World} {x:TV} {T:Tr} (h:AA (n+1) w x T) :
  x.lf=T.leaf/\Row w x.p T.pairs.length (Ai T.pairs)/\Row w x.c T.cuts.length (Ad T.cuts)/\Row w x.b T.buf.length (Af T.buf)/\KH n w x.k T.kids:=by
 obtain⟨h1,h2,h3,h4,xs,h5,h6,h7⟩:=h
 exact⟨h1,h2,h3,h4,xs,h5,h6,h7⟩
def AU:Nat->Tr->Nat
 |0,_=>0
 |n+1,T=>T.pairs.length+(T.cuts.length+(T.kids.length+(T.kids.map (AU n)).sum+T.buf.length))
def Xu (n:Nat) (ts:List Tr):Nat:=ts.length+(ts.map (AU n)).sum
def Iy (n:Nat) (ts:List Tr) (k:Nat):Nat:=((ts.take k).map (AU n)).sum
theorem Lr (n:Nat) (ts:List Tr) (k:Nat) (h:k<ts.length):Iy n ts (k+1)=Iy n ts k+AU n (ts.getD k An):=by
 rw[Iy,Iy,List.take_succ_eq_append_getElem h,List.map_append,List.sum_append]
 simp[List.getD,h]
theorem Uj (n:Nat) (ts:List Tr):Iy n ts ts.length=(ts.map (AU n)).sum:=by simp[Iy]
theorem U9 (n:Nat) (ts:List Tr):∀k,Iy n ts k<=(ts.map (AU n)).sum:=by
 intro k;have h:(ts.map (AU n)).sum=((ts.take k).map (AU n)).sum+((ts.drop k).map (AU n)).sum:=by
  rw[←List.sum_append, ← List.map_append,List.take_append_drop]
 rw[Iy,h]
 omega
theorem JE {n:Nat} {T:Tr} {i:Nat} (hi:i<T.kids.length):AU n (AQ T i)+T.kids.length<=AU (n+1) T:=by
 have h1:=U9 n T.kids (i+1)
 rw[Lr n T.kids i hi] at h1
 show AU n (T.kids.getD i An)+_<=T.pairs.length+(T.cuts.length+(T.kids.length+(T.kids.map (AU n)).sum+T.buf.length))
 omega

def Xr (left:Int) (n:Nat):Int:=if (n:Int)<=left then left-n else -1
end
section
def MT (n:Nat) (f:Nat->Bool):Bool:=(List.range n).all f
theorem DH {n:Nat} {f:Nat->Bool} (h:∀i,i<n->f i=true):MT n f=true:=by
 simp only[MT,List.all_eq_true,List.mem_range];exact h
theorem Fj {n:Nat} {f:Nat->Bool} {i:Nat} (hi:i<n) (h:f i=false):MT n f=false:=by
 rw[Bool.eq_false_iff]
 intro hc;simp only[MT,List.all_eq_true,List.mem_range] at hc
 rw[hc i hi] at h
 cases h
theorem GX {n:Nat} {f:Nat->Bool} (h:MT n f=true) {i:Nat} (hi:i<n):f i=true:=by
 simp only[MT,List.all_eq_true,List.mem_range] at h
 exact h i hi

def Fz (T:Tr) (lo hi:Int) (i:Nat):Bool:=inB (kOf T.pairs i) lo (hi-1)
def Gz (T:Tr) (lo hi:Int):Bool:=MT T.pairs.length (Fz T lo hi)
def Bw (T:Tr) (lo hi:Int):Bool:=Bh T.pairs&&(decide (T.pairs.length<=4)&&(decide (T.cuts.length+T.kids.length+T.buf.length=0)&&Gz T lo hi))
def ES (T:Tr) (lo hi:Int) (i:Nat):Bool:=AO (mO T.buf i) (mK T.buf i) (mV T.buf i)&&(!(mO T.buf i==4)&&inB (mK T.buf i) lo (hi-1))
def GW (T:Tr) (lo hi:Int):Bool:=MT T.buf.length (ES T lo hi)
def Dl (T:Tr) (lo:Int) (i:Nat):Int:=if i=0 then lo else iAt T.cuts (i-1)
def toT (T:Tr) (hi:Int) (i:Nat):Int:=if i<T.cuts.length then iAt T.cuts i else hi
def Gg (T:Tr) (lo hi:Int) (i:Nat):Bool:=inB (iAt T.cuts i) (Dl T lo i+1) (hi-1)
def Fp (T:Tr) (lo hi:Int):Bool:=MT T.cuts.length (Gg T lo hi)
def Ei (T:Tr):Bool:=decide (T.pairs.length=0)&&(decide (2<=T.kids.length/\T.kids.length<=4)&&(decide (T.cuts.length+1=T.kids.length)&&decide (T.buf.length<=6)))
def BH (T:Tr) (lo hi:Int):Bool:=Ei T&&(GW T lo hi&&Fp T lo hi)
def Eh (d:Nat->Nat) (n:Nat):Nat:=if (!(d 0==0)&&MT n fun i=>d i==d 0)=true then d 0+1 else 0
def AK:Nat->Tr->Int->Int->Nat
 |0,_,_,_=>0
 |m+1,T,lo,hi=>if T.leaf=true then (if Bw T lo hi=true then 1 else 0) else if BH T lo hi=true then Eh (fun i=>AK m (AQ T i) (Dl T lo i) (toT T hi i)) T.kids.length else 0
def Cw (m:Nat) (T:Tr) (lo hi:Int) (i:Nat):Nat:=AK m (AQ T i) (Dl T lo i) (toT T hi i)

theorem Da {m:Nat} {T:Tr} {lo hi:Int} (h:T.leaf=true):AK (m+1) T lo hi=if Bw T lo hi=true then 1 else 0:=by rw[AK,if_pos h]
theorem JO {m:Nat} {T:Tr} {lo hi:Int} (h:T.leaf=false) (hf:BH T lo hi=false):AK (m+1) T lo hi=0:=by
 rw[AK,if_neg (by rw[h];decide),if_neg (by rw[hf];decide)]
theorem Dw {m:Nat} {T:Tr} {lo hi:Int} (h:T.leaf=false) (hf:BH T lo hi=true):AK (m+1) T lo hi=Eh (Cw m T lo hi) T.kids.length:=by
 rw[AK,if_neg (by rw[h];decide),if_pos hf];rfl
theorem GP {d:Nat->Nat} {n i:Nat} (hi:i<n) (h:d i=0):Eh d n=0:=by
 rw[Eh,if_neg]
 intro hc;simp only[Bool.and_eq_true] at hc
 have:=GX hc.2 hi
 simp only[beq_iff_eq] at this
 rw[h] at this
 rw[←this] at hc
 simp at hc
theorem GL {d:Nat->Nat} {n i:Nat} (hi:i<n) (h:d i≠d 0):Eh d n=0:=by
 rw[Eh,if_neg]
 intro hc;simp only[Bool.and_eq_true] at hc
 have:=GX hc.2 hi
 simp only[beq_iff_eq] at this
 exact h this
theorem FN {d:Nat->Nat} {n:Nat} (h0:d 0≠0) (h:∀i,i<n->d i=d 0):Eh d n=d 0+1:=by
 rw[Eh,if_pos]
 simp only[Bool.and_eq_true]
 refine⟨by simpa using h0,DH fun i hi=>by simpa using h i hi⟩
theorem Ve {d:Nat->Nat} {n m:Nat} (h:∀i,d i<=m):Eh d n<=m+1:=by
 unfold Eh;split
 ·have:=h 0;omega
 ·omega
theorem Gy:∀(m:Nat) (T:Tr) (lo hi:Int),AK m T lo hi<=m
 |0,_,_,_=>by simp[AK]
 |m+1,T,lo,hi=>by
  rw[AK]
  split
  ·split<;>omega
  ·split
   ·exact Ve fun i=>Gy m _ _ _
   ·omega

def VU:Nat->Tr->Nat
 |0,_=>0
 |n+1,T=>T.pairs.length+(T.kids.map (VU n)).sum
def WO:Nat->Tr->Nat
 |0,_=>0
 |n+1,T=>T.buf.length+(T.kids.map (WO n)).sum
def XI (f:Tr->Nat) (ts:List Tr) (k:Nat):Nat:=((ts.take k).map f).sum
def Xx (l:List Int) (k:Int):Nat:=(l.filter fun c=>decide (c<=k)).length

def Av (T:Tr):Nat:=AK 7 T 0 1000
def okT (T:Tr):Bool:=decide (0<Av T)
end
section
open Go.RowKit

theorem Ju {l:List (Int × Int)} {k:Nat} (h:inB (kOf l k) 0 999=false):Fy l k=false:=by simp[Fy,h]
theorem Jl {l:List (Int × Int)} {k:Nat} (h:inB (vOf l k) (-1000000000) 1000000000=false):Fy l k=false:=by simp[Fy,h]
theorem NU {l:List (Int × Int)} (h:inB (kOf l 0) 0 999=true) (h' :inB (vOf l 0) (-1000000000) 1000000000=true):Fy l 0=true:=by simp[Fy,h,h']
theorem Nn {l:List (Int × Int)} {k:Nat} (h:inB (kOf l (k+1)) 0 999=true) (h' :inB (vOf l (k+1)) (-1000000000) 1000000000=true) (hlt:kOf l k<kOf l (k+1)):Fy l (k+1)=true:=by simp[Fy,h,h',hlt]
theorem IA {l:List (Int × Int)} {k:Nat} (hlt:kOf l (k+1)<=kOf l k):Fy l (k+1)=false:=by
 have:¬kOf l k<kOf l (k+1):=by omega
 simp[Fy,this]

theorem CD (v:Value) (l:List (Int × Int)) (w:World) (h:Row w v l.length (Ai l)) :
  Calls Tryz.prog 45 #[v] w fun e w' =>e= .returned (.bool (Bh l))/\Below w.heap.size w w' :=by
 obtain⟨a,b,off,cap,rfl,hcap,hmax,ha,hk,hv⟩:=h.pairs
 unfold maxLen at hmax;go_enter Tryz.func45,Tryz.ntmps45
 go_wp2;go_loopw [3] (fun i wr=>∃k:Nat,k<=l.length/\i= .int .i64 k/\(∀i,i<k->Fy l i=true)/\Below w.heap.size w wr)
  (fun i _=>l.length-(intOf i).toNat)
 case atStart=>exact⟨0,Nat.zero_le _,rfl,fun i hi=>absurd hi (Nat.not_lt_zero _),Below.refl _ _⟩
 case round=>
  obtain⟨k,hkl,rfl,hall,hb⟩:=hrel
  have ALL:Hid (∀i,i<k->Fy l i=true):=hall
  clear hall;by_cases hlt:k<l.length
  ·have hal:=ha (by omega)
   subst hal;have d0:wr.cell? ⟨b,off+k*2,none⟩=some (.int .i64 (kOf l k)):=(hb.cell (by exact Aa (hk k hlt))).trans (hk k hlt)
   have d1:wr.cell? ⟨b,off+k*2+1,none⟩=some (.int .i64 (vOf l k)):=(hb.cell (by exact Aa (hv k hlt))).trans (hv k hlt)
   cases hK:inB (kOf l k) 0 999
   ·have NE:Hid (Bh l=false):=DY hlt (Ju hK)
    clear hk hv;go_wp2_with fail;go_quiet ((go_at_call 77;exact Calls.quiet_of_same (Cm _ _ _ _)))
    go_wp2;go_ret;exact⟨AG NE.out.symm,below_drewN hb _⟩
   ·cases hV:inB (vOf l k) (-1000000000) 1000000000
    ·have NE:Hid (Bh l=false):=DY hlt (Jl hV)
     clear hk hv;go_wp2_with fail;go_quiet (first|(go_at_call 77;exact Calls.quiet_of_same (Cm _ _ _ _))|(go_at_call 78;exact Calls.quiet_of_same (Fs _ _)))
     go_wp2;go_ret;exact⟨AG NE.out.symm,below_drewN hb _⟩
    ·cases k with
     |zero=>
      have OK:Hid (Fy l 0=true):=NU hK hV
      simp only[Nat.zero_mul,Nat.add_zero] at d0 d1
      clear hk hv;go_wp2_with fail;go_quiet (first|(go_at_call 77;exact Calls.quiet_of_same (Cm _ _ _ _))|(go_at_call 78;exact Calls.quiet_of_same (Fs _ _)))
      go_wp2;go_roundw
      case rel=>exact⟨1,by omega,by go_num,fun i hi=>by rw[show i=0 by omega];exact OK.out,below_drewN hb _⟩
      case measure=>simp[intOf];omega
     |succ k=>
      have hpos:(0:Int)<((k+1:Nat):Int):=by omega
      have d2:wr.cell? ⟨b,off+k*2,none⟩=some (.int .i64 (kOf l k)):=(hb.cell (by exact Aa (hk k (by omega)))).trans (hk k (by omega))
      clear hk hv;by_cases hord:kOf l k<kOf l (k+1)
      ·have OK:Hid (Fy l (k+1)=true):=Nn hK hV hord
       go_wp2_with fail;go_quiet (first|(go_at_call 77;exact Calls.quiet_of_same (Cm _ _ _ _))|(go_at_call 78;exact Calls.quiet_of_same (Fs _ _)))
       go_wp2;go_roundw
       case rel=>exact⟨k+1+1,by omega,by go_num,fun i hi=>if h:i<k+1 then ALL.out i h else by rw[show i=k+1 by omega];exact OK.out,below_drewN hb _⟩
       case measure=>simp[intOf];omega
      ·have NE:Hid (Bh l=false):=DY hlt (IA (by omega))
       go_wp2_with fail;go_quiet (first|(go_at_call 77;exact Calls.quiet_of_same (Cm _ _ _ _))|(go_at_call 78;exact Calls.quiet_of_same (Fs _ _)))
       go_wp2;go_ret;exact⟨AG NE.out.symm,below_drewN hb _⟩
  ·go_wp2;go_ret;exact⟨AG (Hv (fun i hi=>ALL.out i (by omega))).symm,hb⟩

theorem Fk (v:Value) (l:List (Int × Int)) (w:World) (h:Row w v l.length (Ai l)) :
  Calls Tryz.prog 43 #[v] w fun e w' =>e= .returned (.bool (Bh l))/\Below w.heap.size w w' :=by
 obtain⟨a,b,off,cap,rfl,hcap,hmax,ha,hk,hv⟩:=h.pairs
 unfold maxLen at hmax;go_enter Tryz.func43,Tryz.ntmps43
 go_wp2;go_loopw [7] (fun i wr=>∃k:Nat,k<=l.length/\i= .int .i64 k/\(∀i,i<k->Fy l i=true)/\Below w.heap.size w wr)
  (fun i _=>l.length-(intOf i).toNat)
 case atStart=>exact⟨0,Nat.zero_le _,rfl,fun i hi=>absurd hi (Nat.not_lt_zero _),Below.refl _ _⟩
 case round=>
  obtain⟨k,hkl,rfl,hall,hb⟩:=hrel
  have ALL:Hid (∀i,i<k->Fy l i=true):=hall
  clear hall;by_cases hlt:k<l.length
  ·have hal:=ha (by omega)
   subst hal;have hbl:=Aa (hk k hlt)
   have d0:wr.cell? ⟨b,off+k*2,none⟩=some (.int .i64 (kOf l k)):=(hb.cell (by exact hbl)).trans (hk k hlt)
   have d1:wr.cell? ⟨b,off+k*2+1,none⟩=some (.int .i64 (vOf l k)):=(hb.cell (by exact hbl)).trans (hv k hlt)
   have hb' :∀o,Below w.heap.size w (wr.alloc o):=fun o=>hb.alloc hb.size o
   cases hK:inB (kOf l k) 0 999
   ·have NE:Hid (Bh l=false):=DY hlt (Ju hK)
    clear hk hv;go_wp2_with (go_at_call 58;refine(D7 _ _).mono ?_;rintro e w' ⟨rfl,rfl⟩)
    go_ret;exact⟨AG NE.out.symm,hb' _⟩
   ·cases hV:inB (vOf l k) (-1000000000) 1000000000
    ·have NE:Hid (Bh l=false):=DY hlt (Jl hV)
     clear hk hv;go_wp2_with (first|(go_at_call 58;refine(D7 _ _).mono ?_;rintro e w' ⟨rfl,rfl⟩)|(go_at_call 59;refine(Dv _ _).mono ?_;rintro e w' ⟨rfl,rfl⟩))
     go_ret;exact⟨AG NE.out.symm,hb' _⟩
    ·cases k with
     |zero=>
      have OK:Hid (Fy l 0=true):=NU hK hV
      simp only[Nat.zero_mul,Nat.add_zero] at d0 d1
      clear hk hv;go_wp2_with (first|(go_at_call 58;refine(D7 _ _).mono ?_;rintro e w' ⟨rfl,rfl⟩)|(go_at_call 59;refine(Dv _ _).mono ?_;rintro e w' ⟨rfl,rfl⟩))
      go_quiet (fail)
      go_wp2;go_roundw
      case rel=>exact⟨1,by omega,by go_num,fun i hi=>by rw[show i=0 by omega];exact OK.out,below_drewN (hb' _) _⟩
      case measure=>simp[intOf];omega
     |succ k=>
      have hpos:(0:Int)<((k+1:Nat):Int):=by omega
      have hwk:IntKind.i64.wrap (k:Int)=(k:Int):=by rw[IntKind.wrap_i64];omega
      have hkb:(k:Int)<(l.length:Int):=by omega
      have hbr:b<wr.heap.size:=Nat.lt_of_lt_of_le hbl hb.size
      have hbn:¬b=wr.heap.size:=by omega
      have d2:wr.cell? ⟨b,off+k*2,none⟩=some (.int .i64 (kOf l k)):=(hb.cell (by exact hbl)).trans (hk k (by omega))
      have d2' :∀o,(wr.alloc o).cell? ⟨b,off+k*2,none⟩=some (.int .i64 (kOf l k)):=fun o=>(((Below.refl _ _).alloc (Nat.le_refl _) o).cell (p:=⟨b,off+k*2,none⟩) hbr).trans d2
      clear hk hv;by_cases hord:kOf l k<kOf l (k+1)
      ·have OK:Hid (Fy l (k+1)=true):=Nn hK hV hord
       go_wp2_with (first|(go_at_call 58;refine(D7 _ _).mono ?_;rintro e w' ⟨rfl,rfl⟩)|(go_at_call 59;refine(Dv _ _).mono ?_;rintro e w' ⟨rfl,rfl⟩))
       go_quiet (fail)
       go_wp2;go_roundw
       case rel=>exact⟨k+1+1,by omega,by go_num,fun i hi=>if h:i<k+1 then ALL.out i h else by rw[show i=k+1 by omega];exact OK.out,below_drewN (hb' _) _⟩
       case measure=>simp[intOf];omega
      ·have NE:Hid (Bh l=false):=DY hlt (IA (by omega))
       go_wp2_with (first|(go_at_call 58;refine(D7 _ _).mono ?_;rintro e w' ⟨rfl,rfl⟩)|(go_at_call 59;refine(Dv _ _).mono ?_;rintro e w' ⟨rfl,rfl⟩))
       go_quiet (fail)
       go_wp2;go_ret;exact⟨AG NE.out.symm,below_drewN (hb' _) _⟩
  ·go_wp2;go_ret;exact⟨AG (Hv (fun i hi=>ALL.out i (by omega))).symm,hb⟩
end
end Go.Proofs.YtadmomgdacfgpaaGreat
