/-
  Contracts of the laws' own functions that measure a tree.
  Contracts of the laws' own functions that hold two trees against each other.
  Trees that own their memory; contracts of the laws' own functions that copy a tree.
  Contracts of the laws' own functions that copy a tree, of any height.
  Machines in memory: the laws' own functions on them.
-/
import Derived.Test.YtkcaelfkcepdkaaGreatOfNote2
namespace Go.Proofs.YtkcaelfkcepdkaaGreat
set_option maxRecDepth 100000
set_option maxHeartbeats 8000000
section
open Go.RowKit

theorem Eb (a:Option Addr) (n cap:Nat) (left:Int) (hn:n<=maxLen) (hl:0<=left) (hl2:left<=1048576) (w:World) :
  Calls Tryz.prog 58 #[.slice a n cap, .int .i64 left] w fun e w' =>e= .returned (.int .i64 (if (n:Int)<=left then left-n else -1))/\w' =w:=by
 unfold maxLen at hn;by_cases h:(n:Int)<=left
 ·go_enter Tryz.func58,Tryz.ntmps58
  go_wp2;go_ret;exact⟨rfl,rfl⟩
 ·go_enter Tryz.func58,Tryz.ntmps58
  go_wp2;go_ret;exact⟨rfl,rfl⟩

def NG (n:Nat):Prop:=∀(x:TV) (T:Tr) (left:Int) (w:World),Bb n w x T->0<=left->left<=1048576→
  Calls Tryz.prog 96 #[x.val, .int .i64 left] w fun e w' =>e= .returned (.int .i64 (Cp left (Az n T)))/\Below w.heap.size w w'
def Oq (n:Nat):Prop:=∀(v:Value) (ts:List Tr) (left:Int) (w:World),BR n w v ts->0<=left->left<=1048576→
  Calls Tryz.prog 116 #[v, .int .i64 left] w fun e w' =>e= .returned (.int .i64 (Cp left (Cl n ts)))/\Below w.heap.size w w'

theorem E5 {left:Int} {n:Nat} (h:(n:Int)<=left):Cp left n=left-n:=if_pos h
theorem D4 {left:Int} {n:Nat} (h:¬(n:Int)<=left):Cp left n= -1:=if_neg h

theorem NR {n:Nat} (H:NG n):Oq n:=by
 intro v ts left w hts hl0 hl1;obtain⟨xs,hxl,hrow,hk⟩:=hts
 obtain⟨a,b,off,cap,rfl,hcap,hmax,ha,c0,c1,c2,c3,c4⟩:=hrow.trees
 unfold maxLen at hmax;have XL:Hid (xs.length=ts.length):=hxl
 clear hxl;by_cases hl:(xs.length:Int)<=left
 ·go_enter Tryz.func116,Tryz.ntmps116
  go_wp2;go_loopw [1,5] (fun lf i wr=>∃(k:Nat) (y:Int),k<=xs.length/\i= .int .i64 k/\lf= .int .i64 y/\0<=y/\y<=1048576/\Hid (y=left-xs.length-DP n ts k)/\Below w.heap.size w wr)
   (fun _ i _=>xs.length-(intOf i).toNat)
  case atStart=>exact⟨0,left-xs.length,Nat.zero_le _,rfl,rfl,by omega,by omega,by show _=_;simp[DP],Below.refl _ _⟩
  case round=>
   obtain⟨k,y,hkl,rfl,rfl,hy0,hy1,YE,hb⟩:=hrel
   by_cases hlt:k<xs.length
   ·have hal:=ha (by omega)
    subst hal;have d0:=(hb.cell (by exact Ah (c0 k hlt))).trans (c0 k hlt)
    have d1:=(hb.cell (by exact Ah (c1 k hlt))).trans (c1 k hlt)
    have d2:=(hb.cell (by exact Ah (c2 k hlt))).trans (c2 k hlt)
    have d3:=(hb.cell (by exact Ah (c3 k hlt))).trans (c3 k hlt)
    have d4:=(hb.cell (by exact Ah (c4 k hlt))).trans (c4 k hlt)
    have T0:Hid (Bb n wr (Ak xs k) (ts.getD k AR)):=(hk k hlt).below hb
    have S1:Hid (DP n ts (k+1)=DP n ts k+Az n (ts.getD k AR)):=EZ n ts k (by have:=XL.out;omega)
    have S2:Hid (DP n ts (k+1)<=(ts.map (Az n)).sum):=IF n ts (k+1)
    clear c0 c1 c2 c3 c4 hk hrow ha;by_cases hfit:(Az n (ts.getD k AR):Int)<=y
    ·go_wp2_with fail;refine(H (Ak xs k) _ _ _ T0.out hy0 hy1).mono ?_
     rintro e w1 ⟨he,hb1⟩
     rw[E5 hfit] at he
     subst he;have Y2:Hid (y-(Az n (ts.getD k AR):Int)=left-xs.length-DP n ts (k+1)):=by
      have e1:=YE.out;have e2:=S1.out
      show _=_
      omega
     clear YE S1 S2 T0 d0 d1 d2 d3 d4;generalize Az n (ts.getD k AR)=s at *
     go_wp2;go_roundw
     case rel=>exact⟨k+1,_,by omega,by go_num,rfl,by omega,by omega,Y2,Below.and hb hb1⟩
     case measure=>simp[intOf];omega
    ·go_wp2_with fail;refine(H (Ak xs k) _ _ _ T0.out hy0 hy1).mono ?_
     rintro e w1 ⟨he,hb1⟩
     rw[D4 (by omega)] at he
     subst he;have Y2:Hid (Cp left (Cl n ts)= -1):=by
      have e1:=YE.out;have e2:=S1.out;have e3:=S2.out;have e4:=XL.out
      refine D4 ?_
      unfold Cl;omega
     clear YE S1 S2 T0 d0 d1 d2 d3 d4;generalize Az n (ts.getD k AR)=s at *
     go_wp2;go_ret;exact⟨An Y2.out.symm,Below.and hb hb1⟩
   ·have hkk:k=xs.length:=by omega
    subst hkk;have Y2:Hid (Cp left (Cl n ts)=y):=by
     have e1:=YE.out
     rw[XL.out,JG] at e1
     show _=_
     rw[E5 (by have:=XL.out;unfold Cl;omega)]
     unfold Cl;omega
    clear c0 c1 c2 c3 c4 hk hrow ha YE;go_wp2;go_ret;exact⟨An Y2.out.symm,hb⟩
 ·have Y2:Hid (Cp left (Cl n ts)= -1):=D4 (by have:=XL.out;unfold Cl;omega)
  go_enter Tryz.func116,Tryz.ntmps116
  go_wp2;go_ret;exact⟨An Y2.out.symm,Below.refl _ _⟩

theorem P7 {n:Nat} (H:Oq n):NG (n+1):=by
 intro x T left w ht hl0 hl1;obtain⟨lf,p,c,k,b⟩:=x
 obtain⟨_,hp,hc,hb,hk⟩:=ht.parts
 simp only at hp hc hb hk
 obtain⟨a1,cap1,rfl,m1⟩:=hp.len
 obtain⟨a2,cap2,rfl,m2⟩:=hc.len
 obtain⟨a4,cap4,rfl,m4⟩:=hb.len
 have KK:Hid (BR n w k T.kids):=hk
 have hS:Hid (Az (n+1) T=T.pairs.length+(T.cuts.length+(Cl n T.kids+T.buf.length))):=rfl
 clear hp hc hb hk ht;show Calls Tryz.prog 96 #[.agg #[.bool lf, .slice a1 T.pairs.length cap1, .slice a2 T.cuts.length cap2,k, .slice a4 T.buf.length cap4], .int .i64 left] w _
 by_cases f1:(T.pairs.length:Int)<=left
 ·by_cases f2:(T.cuts.length:Int)<=left-T.pairs.length
  ·by_cases f3:(Cl n T.kids:Int)<=left-T.pairs.length-T.cuts.length
   ·by_cases f4:(T.buf.length:Int)<=left-T.pairs.length-T.cuts.length-Cl n T.kids
    all_goals
     go_enter Tryz.func96,Tryz.ntmps96
     go_wp2_with fail;refine(Ei _ _ _ _ m1 (by omega) (by omega) _).mono ?_
     rintro e w1 ⟨rfl,rfl⟩
     go_wp2_with fail;refine(Eb _ _ _ _ m2 (by omega) (by omega) _).mono ?_
     rintro e w1 ⟨rfl,rfl⟩
     go_wp2_with fail;refine(H _ T.kids _ _ (KK.out.below ((Below.refl _ _).alloc (Nat.le_refl _) _)) (by omega) (by omega)).mono ?_
     rintro e w1 ⟨he,hb1⟩
     rw[E5 f3] at he
     subst he;obtain⟨hc,hf⟩:=TI hb1
     have BB:Hid (Below w.heap.size w w1):=((Below.refl _ _).alloc (Nat.le_refl _) _).trans (hb1.mono (by simp))
     clear hb1;generalize Cl n T.kids=s at *
     go_wp2_with fail;refine(Na _ _ _ _ m4 (by omega) (by omega) _).mono ?_
     rintro e w1 ⟨rfl,rfl⟩
     go_wp2;go_ret;refine⟨An ?_,BB.out⟩
     rw[hS.out]
     unfold Cp;split<;>omega
   ·go_enter Tryz.func96,Tryz.ntmps96
    go_wp2_with fail;refine(Ei _ _ _ _ m1 (by omega) (by omega) _).mono ?_
    rintro e w1 ⟨rfl,rfl⟩
    go_wp2_with fail;refine(Eb _ _ _ _ m2 (by omega) (by omega) _).mono ?_
    rintro e w1 ⟨rfl,rfl⟩
    go_wp2_with fail;refine(H _ T.kids _ _ (KK.out.below ((Below.refl _ _).alloc (Nat.le_refl _) _)) (by omega) (by omega)).mono ?_
    rintro e w1 ⟨he,hb1⟩
    rw[D4 (by omega)] at he
    subst he;have BB:Hid (Below w.heap.size w w1):=((Below.refl _ _).alloc (Nat.le_refl _) _).trans (hb1.mono (by simp))
    clear hb1;generalize Cl n T.kids=s at *
    go_wp2;go_ret;refine⟨An ?_,BB.out⟩
    rw[hS.out]
    unfold Cp;split<;>omega
  ·go_enter Tryz.func96,Tryz.ntmps96
   go_wp2_with fail;refine(Ei _ _ _ _ m1 (by omega) (by omega) _).mono ?_
   rintro e w1 ⟨rfl,rfl⟩
   go_wp2_with fail;refine(Eb _ _ _ _ m2 (by omega) (by omega) _).mono ?_
   rintro e w1 ⟨rfl,rfl⟩
   go_wp2;go_ret;refine⟨An ?_,(Below.refl _ _).alloc (Nat.le_refl _) _⟩
   rw[hS.out]
   unfold Cp;split<;>omega
 ·go_enter Tryz.func96,Tryz.ntmps96
  go_wp2_with fail;refine(Ei _ _ _ _ m1 (by omega) (by omega) _).mono ?_
  rintro e w1 ⟨rfl,rfl⟩
  go_wp2;go_ret;refine⟨An ?_,(Below.refl _ _).alloc (Nat.le_refl _) _⟩
  rw[hS.out]
  unfold Cp;split<;>omega

theorem IL:∀n,NG n
 |0=>fun _ _ _ _ h=>h.elim
 |n+1=>P7 (NR (IL n))
end
section
open Go.RowKit

theorem SI {l1 l2:List Int} (hl:l1.length=l2.length) (h:∀i,i<l1.length->iAt l1 i=iAt l2 i):l1=l2:=by
 apply List.ext_getElem hl
 intro i h1 h2;have:=h i h1
 simpa[iAt,List.getD,h1,h2] using this

theorem GG (v1 v2:Value) (l1 l2:List Int) (w:World) (h1:Row w v1 l1.length (Am l1)) (h2:Row w v2 l2.length (Am l2)) :
  Calls Tryz.prog 70 #[v1,v2] w fun e w' =>e= .returned (.bool (decide (l1=l2)))/\Below w.heap.size w w' :=by
 obtain⟨a,b,off,cap,rfl,hcap,hmax,ha,hk⟩:=h1.ints
 obtain⟨a2,b2,off2,cap2,rfl,hcap2,hmax2,ha2,hk2⟩:=h2.ints
 unfold maxLen at hmax hmax2;by_cases hl:l1.length=l2.length
 ·have hne:((l1.length:Int) != (l2.length:Int))=false:=by rw[bne_eq_false_iff_eq];omega
  have HL:Hid (l1.length=l2.length):=hl
  have hl2:l1.length<=l2.length:=by omega
  clear hl;go_enter Tryz.func70,Tryz.ntmps70
  go_wp2;go_loopw [5] (fun i wr=>∃k:Nat,k<=l1.length/\i= .int .i64 k/\Hid (∀i,i<k->iAt l1 i=iAt l2 i)/\Below w.heap.size w wr)
   (fun i _=>l1.length-(intOf i).toNat)
  case atStart=>exact⟨0,Nat.zero_le _,rfl,fun i hi=>absurd hi (Nat.not_lt_zero _),Below.refl _ _⟩
  case round=>
   obtain⟨k,hkl,rfl,ALL,hb⟩:=hrel
   by_cases hlt:k<l1.length
   ·have hal:=ha (by omega)
    subst hal;have hal2:=ha2 (by omega)
    subst hal2;have hlt2:k<l2.length:=by omega
    have d0:=(hb.cell (by exact Ah (hk k hlt))).trans (hk k hlt)
    have d1:=(hb.cell (by exact Ah (hk2 k hlt2))).trans (hk2 k hlt2)
    clear hk ha hk2 ha2;by_cases hq:iAt l1 k=iAt l2 k
    ·have hq' :(iAt l1 k != iAt l2 k)=false:=by rw[bne_eq_false_iff_eq];exact hq
     have EQ:Hid (iAt l1 k=iAt l2 k):=hq
     clear hq;go_wp2_with fail;go_quiet (fail)
     go_wp2;go_roundw
     case rel=>exact⟨k+1,by omega,by go_num,fun i hi=>if h:i<k then ALL.out i h else by rw[show i=k by omega];exact EQ.out,below_drewN hb _⟩
     case measure=>simp[intOf];omega
    ·have hq' :(iAt l1 k != iAt l2 k)=true:=by rw[bne_iff_ne];exact hq
     have NE:Hid (decide (l1=l2)=false):=decide_eq_false (fun e=>hq (by rw[e]))
     clear hq;go_wp2_with fail;go_quiet (fail)
     go_wp2;go_ret;exact⟨Ay NE.out.symm,below_drewN hb _⟩
   ·go_wp2;go_ret;refine⟨Ay ?_,hb⟩
    symm
    rw[decide_eq_true_iff]
    exact SI HL.out (fun i hi=>ALL.out i (by omega))
 ·have hne:((l1.length:Int) != (l2.length:Int))=true:=by rw[bne_iff_ne];omega
  go_enter Tryz.func70,Tryz.ntmps70
  go_wp2;go_ret;refine⟨Ay ?_,Below.refl _ _⟩
  symm
  rw[decide_eq_false_iff_not]
  intro h;exact hl (by rw[h])

def Nm (n:Nat):Prop:=∀(x y:TV) (T:Tr) (w:World),Bb n w x T->Bb n w y T→
  Calls Tryz.prog 103 #[x.val,y.val] w fun e w' =>e= .returned (.bool true)/\Below w.heap.size w w'
def Of (n:Nat):Prop:=∀(v u:Value) (ts:List Tr) (w:World),BR n w v ts->BR n w u ts→
  Calls Tryz.prog 124 #[v,u] w fun e w' =>e= .returned (.bool true)/\Below w.heap.size w w'

theorem N8 {n:Nat} (H:Nm n):Of n:=by
 intro v u ts w hv hu;obtain⟨xs,hxl,hrow,hk⟩:=hv
 obtain⟨ys,hyl,hrow2,hk2⟩:=hu
 obtain⟨a,b,off,cap,rfl,hcap,hmax,ha,c0,c1,c2,c3,c4⟩:=hrow.trees
 obtain⟨a2,b2,off2,cap2,rfl,hcap2,hmax2,ha2,g0,g1,g2,g3,g4⟩:=hrow2.trees
 unfold maxLen at hmax hmax2;have hl2:xs.length<=ys.length:=by omega
 have hne:((xs.length:Int) != (ys.length:Int))=false:=by rw[bne_eq_false_iff_eq];omega
 clear hxl hyl;go_enter Tryz.func124,Tryz.ntmps124
 go_wp2;go_loopw [5] (fun i wr=>∃k:Nat,k<=xs.length/\i= .int .i64 k/\Below w.heap.size w wr)
  (fun i _=>xs.length-(intOf i).toNat)
 case atStart=>exact⟨0,Nat.zero_le _,rfl,Below.refl _ _⟩
 case round=>
  obtain⟨k,hkl,rfl,hb⟩:=hrel
  by_cases hlt:k<xs.length
  ·have hal:=ha (by omega)
   subst hal;have hal2:=ha2 (by omega)
   subst hal2;have hlt2:k<ys.length:=by omega
   have d0:=(hb.cell (by exact Ah (c0 k hlt))).trans (c0 k hlt)
   have d1:=(hb.cell (by exact Ah (c1 k hlt))).trans (c1 k hlt)
   have d2:=(hb.cell (by exact Ah (c2 k hlt))).trans (c2 k hlt)
   have d3:=(hb.cell (by exact Ah (c3 k hlt))).trans (c3 k hlt)
   have d4:=(hb.cell (by exact Ah (c4 k hlt))).trans (c4 k hlt)
   have e0:=(hb.cell (by exact Ah (g0 k hlt2))).trans (g0 k hlt2)
   have e1:=(hb.cell (by exact Ah (g1 k hlt2))).trans (g1 k hlt2)
   have e2:=(hb.cell (by exact Ah (g2 k hlt2))).trans (g2 k hlt2)
   have e3:=(hb.cell (by exact Ah (g3 k hlt2))).trans (g3 k hlt2)
   have e4:=(hb.cell (by exact Ah (g4 k hlt2))).trans (g4 k hlt2)
   have T0:Hid (Bb n wr.drew (Ak xs k) (ts.getD k AR)):=(hk k hlt).below hb.drew
   have T1:Hid (Bb n wr.drew (Ak ys k) (ts.getD k AR)):=(hk2 k hlt2).below hb.drew
   clear c0 c1 c2 c3 c4 hk hrow ha g0 g1 g2 g3 g4 hk2 hrow2 ha2;go_wp2_with fail;go_region_with (go_at_call 103;refine(H (Ak xs k) (Ak ys k) _ _ T0.out T1.out).mono ?_;rintro e w1 ⟨rfl,hb1⟩)
   all_goals
    go_wp2;go_roundw
    case rel=>exact⟨k+1,by omega,by go_num,hb.drew.trans (hb1.mono hb.size)⟩
    case measure=>simp[intOf];omega
  ·clear c0 c1 c2 c3 c4 hk hrow ha g0 g1 g2 g3 g4 hk2 hrow2 ha2;go_wp2;go_ret;exact⟨rfl,hb⟩

structure Ff (u:World) (B:Nat) (A Z:Array Value):Prop where
 h0:u.heap[B]? =some (.cells A 69 (0,0))
 h1:u.heap[B+1]? =some (.cells Z 69 (0,0))
theorem Ff.step {u w' :World} {B:Nat} {A Z:Array Value} (h:Ff u B A Z) (hb:Below u.heap.size u w'):Ff w' B A Z:=by
 have hs:=(Array.getElem?_eq_some_iff.1 h.h1).1
 exact⟨(hb.block _ (by omega)).trans h.h0,(hb.block _ (by omega)).trans h.h1⟩
theorem Ff.cells {u:World} {B:Nat} {A Z:Array Value} (h:Ff u B A Z):(∀j,u.cell? ⟨B,j,none⟩=A[j]?)/\(∀j,u.cell? ⟨B+1,j,none⟩=Z[j]?):=
 ⟨fun j=>cell_of_row u B j A 69 (0,0) h.h0,fun j=>cell_of_row u (B+1) j Z 69 (0,0) h.h1⟩
theorem Ff.start (w:World) (A Z:Array Value):Ff ((w.alloc (.cells A 69)).alloc (.cells Z 69)) w.heap.size A Z:=by
 have e:∀(x:World) (o:Obj),(x.alloc o).heap.size=x.heap.size+1:=fun x o=>by simp
 have k1:∀(x:World) (o:Obj) (g:Nat),g<x.heap.size->(x.alloc o).heap[g]? =x.heap[g]? :=fun x o g hg=>((Below.refl x.heap.size x).alloc (Nat.le_refl _) o).block g hg
 refine⟨?_, ?_⟩
 ·rw[k1 _ _ _ (by rw[e];omega)];exact heap_alloc_new w _
 ·rw[←e w (.cells A 69)];exact heap_alloc_new _ _

theorem Qa {n:Nat} (H:Of n):Nm (n+1):=by
 intro x y T w ht hu;obtain⟨lf,p,c,k,b⟩:=x
 obtain⟨lf2,p2,c2,k2,b2⟩:=y
 obtain⟨hlf,hp,hc,hb,hk⟩:=ht.parts
 obtain⟨hlf2,hp2,hc2,hb2,hk2⟩:=hu.parts
 simp only at hlf hp hc hb hk hlf2 hp2 hc2 hb2 hk2
 subst hlf;subst hlf2;have R1:Hid (Row w p T.pairs.length (AF T.pairs)):=hp
 have R2:Hid (Row w c T.cuts.length (Am T.cuts)):=hc
 have R3:Hid (BR n w k T.kids):=hk
 have R4:Hid (Row w b T.buf.length (AW T.buf)):=hb
 have Q1:Hid (Row w p2 T.pairs.length (AF T.pairs)):=hp2
 have Q2:Hid (Row w c2 T.cuts.length (Am T.cuts)):=hc2
 have Q3:Hid (BR n w k2 T.kids):=hk2
 have Q4:Hid (Row w b2 T.buf.length (AW T.buf)):=hb2
 clear hp hc hb hk ht hp2 hc2 hb2 hk2 hu;have hlf:(T.leaf != T.leaf)=false:=by simp
 show Calls Tryz.prog 103 #[.agg #[.bool T.leaf,p,c,k,b], .agg #[.bool T.leaf,p2,c2,k2,b2]] w _
 have B0:Hid (Below w.heap.size w ((w.alloc (.cells #[.bool T.leaf,p,c,k,b] 69)).alloc (.cells #[.bool T.leaf,p2,c2,k2,b2] 69))):=((Below.refl _ _).alloc (Nat.le_refl _) _).alloc (by simp) _
 have S0:Hid (Ff _ w.heap.size _ _):=Ff.start w #[.bool T.leaf,p,c,k,b] #[.bool T.leaf,p2,c2,k2,b2]
 go_enter Tryz.func103,Tryz.ntmps103
 go_wp2_with fail;refine(Mr _ _ _ _ _ (R1.out.below B0.out) (Q1.out.below B0.out)).mono ?_
 rintro e w1 ⟨he,hb1⟩
 rw[decide_eq_true rfl] at he
 subst he;have B1:Hid (Below w.heap.size w w1):=Below.and B0.out hb1
 have S1:Hid (Ff w1 w.heap.size #[.bool T.leaf,p,c,k,b] #[.bool T.leaf,p2,c2,k2,b2]):=S0.out.step hb1
 obtain⟨k0,k1⟩:=S1.out.cells
 clear B0 S0 hb1;go_wp2_with fail;refine(GG _ _ _ _ _ (R2.out.below B1.out) (Q2.out.below B1.out)).mono ?_
 rintro e w2 ⟨he,hb2⟩
 rw[decide_eq_true rfl] at he
 subst he;have B2:Hid (Below w.heap.size w w2):=Below.and B1.out hb2
 have S2:Hid (Ff w2 w.heap.size #[.bool T.leaf,p,c,k,b] #[.bool T.leaf,p2,c2,k2,b2]):=S1.out.step hb2
 clear B1 S1 hb2 k0 k1;obtain⟨k0,k1⟩:=S2.out.cells
 go_wp2_with fail;refine(H _ _ T.kids _ (R3.out.below B2.out) (Q3.out.below B2.out)).mono ?_
 rintro e w3 ⟨rfl,hb3⟩
 have B3:Hid (Below w.heap.size w w3):=Below.and B2.out hb3
 have S3:Hid (Ff w3 w.heap.size #[.bool T.leaf,p,c,k,b] #[.bool T.leaf,p2,c2,k2,b2]):=S2.out.step hb3
 clear B2 S2 hb3 k0 k1;obtain⟨k0,k1⟩:=S3.out.cells
 go_wp2_with fail;refine(Nn _ _ _ _ _ (R4.out.below B3.out) (Q4.out.below B3.out)).mono ?_
 rintro e w4 ⟨he,hb4⟩
 rw[decide_eq_true rfl] at he
 subst he;have B4:Hid (Below w.heap.size w w4):=Below.and B3.out hb4
 clear B3 S3 hb4 k0 k1;go_wp2;go_ret;exact⟨rfl,B4.out⟩

theorem IW:∀n,Nm n
 |0=>fun _ _ _ _ h=>h.elim
 |n+1=>Qa (N8 (IW n))
end
section
open Go.RowKit

def Ih:Nat->World->Nat->TV->Tr->Prop
 |0,_,_,_,_=>False
 | n + 1, w, base, x, T => x.lf = T.leaf ∧ w.ownsRow base 157 2 x.p T.pairs.length (AF T.pairs) ∧ w.ownsRow base 3 1 x.c T.cuts.length (Am T.cuts) ∧ w.ownsRow base 115 3 x.b T.buf.length (AW T.buf) ∧
   ∃xs:List TV,xs.length=T.kids.length/\w.ownsRow base 69 5 x.k xs.length (AA xs)/\∀i,i<xs.length->Ih n w base (Ak xs i) (Jg T i)

def QE (n:Nat) (w:World) (base:Nat) (v:Value) (ts:List Tr):Prop:=
 ∃xs:List TV,xs.length=ts.length/\w.ownsRow base 69 5 v xs.length (AA xs)/\∀i,i<xs.length->Ih n w base (Ak xs i) (ts.getD i AR)
theorem Tryz.info3:(Tryz.prog.info? 3).map (fun i=>(i.zero,i.size,i.bytes))=some (some (.int .i64 0),1,8):=by kernel_rfl
theorem Tryz.info69:(Tryz.prog.info? 69).map (fun i=>(i.zero,i.size,i.bytes))=some (some (.agg #[.bool false, .slice none 0 0, .slice none 0 0, .slice none 0 0, .slice none 0 0]),5,104):=by kernel_rfl

def Dd (l:List Int) (k:Nat):List Int:=l.take k++List.replicate (l.length-k) 0
theorem IV (l:List Int) (k:Nat) (hk:k<=l.length):(Dd l k).length=l.length:=by simp[Dd];omega
theorem Ks (l:List Int):Dd l l.length=l:=by simp[Dd]
theorem Ky (l:List Int) (k:Nat) (hk:k<l.length):(Dd l k).set k (iAt l k)=Dd l (k+1):=by
 obtain⟨m,hm⟩:∃m,l.length-k=m+1:=⟨l.length-k-1,by omega⟩
 have e:iAt l k=l[k]:=by simp[iAt,List.getD,hk]
 rw[Dd,Dd,List.take_succ_eq_append_getElem hk,hm,show l.length-(k+1)=m by omega,List.replicate_succ,List.set_append_right _ _ (by simp;omega),e,List.append_assoc]
 simp only[List.length_take,show min k l.length=k by omega,Nat.sub_self,List.set_cons_zero,List.singleton_append]
theorem Pj (l:List Int) (i:Nat) (x:Int):(Am l).set i (.int .i64 x)=Am (l.set i x):=by simp[Am,List.map_set]

theorem Gm (v:Value) (l:List Int) (w:World) (hr:Row w v l.length (Am l)) (hn:l.length<=1048576) :
  Calls Tryz.prog 64 #[v] w fun e w' =>∃v',e= .returned v' ∧w'.ownsRow w.heap.size 3 1 v' l.length (Am l)/\Below w.heap.size w w' :=by
 obtain⟨a,b,off,cap,rfl,hcap,hmax,ha,hk⟩:=hr.ints
 obtain⟨i0,hi,hz0,hz1,hz2⟩:=info_parts Tryz.info3
 unfold maxLen at hmax;go_enter Tryz.func64,Tryz.ntmps64
 go_wp2_with (at_make;refine wpList_make_full _ rfl _ _ 50 rfl w.heap.size 3 i0 _ 1 Tryz.underlying50 hi hz0 hz1 .i64 .i64 _ _ l.length rfl rfl rfl rfl ?c1 ?c2 ?c3 ?_)
 case c1=>rw[hz2];omega
 case c2=>unfold maxLen;omega
 case c3=>exact Nat.le_refl _
 intro w0 hown0 hgrow0;have hb0:Below w.heap.size w w0:=(Below.refl _ _).grown hgrow0 (Nat.le_refl _) (fun k hk=>by cases hk)
 clear hgrow0;go_wp2;go_loopw [4] (fun i wr=>∃k:Nat,k<=l.length/\i= .int .i64 k/\wr.ownsRow w.heap.size 3 1 (.slice (some ⟨w.heap.size,0,none⟩) l.length l.length) l.length (Am (Dd l k))/\Below w.heap.size w wr)
  (fun i _=>l.length-(intOf i).toNat)
 case atStart=>exact⟨0,Nat.zero_le _,rfl,by rw[CV _ (.int .i64 0) (by decide) (fun i hi=>by match i,hi with|0,_=>rfl)] at hown0;simpa[Dd,Am] using hown0,hb0⟩
 case round=>
  obtain⟨k,hkl,rfl,hown,hb⟩:=hrel
  clear hown0 hb0;by_cases hlt:k<l.length
  ·have hal:=ha (by omega)
   subst hal;have d0:=(hb.cell (by exact Ah (hk k hlt))).trans (hk k hlt)
   have hat:=IC (Dd l k) k (by rw[IV l k hkl];exact hlt)
   have e0:=(hown.cellAt k (by omega)).trans hat
   have f0:=hown.frozenAt k
   have st:=(hown.stored k (.int .i64 (iAt l k))).1
   rw[Pj,Ky l k hlt] at st
   generalize iAt (Dd l k) k=x0 at *
   have ST:Hid _:=st
   clear st hown hat hk hr;go_wp2;go_roundw
   case rel=>exact⟨k+1,by omega,by go_num,ST.out,hb.setCell (Nat.le_refl _) _⟩
   case measure=>simp[intOf];omega
  ·go_wp2;go_ret;have hkk:k=l.length:=by omega
   subst hkk;rw[Ks] at hown
   exact⟨_,rfl,hown,hb⟩

def Uu (n:Nat):Prop:=∀(x:TV) (T:Tr) (w:World),Bb n w x T->Az n T<=1048576→
  Calls Tryz.prog 98 #[x.val] w fun e w' =>∃y:TV,e= .returned y.val/\Ih n w' w.heap.size y T/\Below w.heap.size w w'
def Uh (n:Nat):Prop:=∀(v:Value) (ts:List Tr) (w:World),BR n w v ts->Cl n ts<=1048576→
  Calls Tryz.prog 119 #[v] w fun e w' =>∃v',e= .returned v' ∧QE n w' w.heap.size v' ts/\Below w.heap.size w w'

theorem Mc (l:List TV) (y:TV) (k:Nat) (hk:k<l.length):Ak (l.set k y) k=y:=by simp[Ak,List.getD,hk]
theorem Mp (l:List TV) (y:TV) (k i:Nat) (h:k≠i):Ak (l.set k y) i=Ak l i:=by simp[Ak,List.getD,h]
theorem MR (n:Nat) (i:Nat):(AA (List.replicate n II))[i]? =(if i<n*5 then some (if i%5=0 then .bool false else .slice none 0 0) else none):=by
 induction n generalizing i with
 |zero=>simp[AA]
 |succ n ih=>
  rw[List.replicate_succ,Cb]
  match i with
  |0=>simp[II]
  |1=>simp[II];omega
  |2=>simp[II];omega
  |3=>simp[II];omega
  |4=>simp[II];omega
  |i+5=>
   simp only[List.getElem?_cons_succ]
   rw[ih i,show(i+5)%5=i%5 by omega]
   by_cases h:i<n*5
   ·rw[if_pos h,if_pos (show i+5<(n+1)*5 by omega)]
   ·rw[if_neg h,if_neg (show ¬i+5<(n+1)*5 by omega)]
theorem Iz (n:Nat):(madeCells #[.bool false, .slice none 0 0, .slice none 0 0, .slice none 0 0, .slice none 0 0] (n*5)).toList=AA (List.replicate n II):=by
 apply List.ext_getElem?
 intro j;rw[MR]
 by_cases hj:j<n*5
 ·rw[if_pos hj]
  simp only[madeCells]
  have:j%5=0∨j%5=1∨j%5=2∨j%5=3∨j%5=4:=by omega
  rcases this with h|h|h|h|h<;>simp[hj,h]
 ·rw[if_neg hj]
  simp[madeCells,hj]
end
section
open Go.RowKit

theorem Bb.shape:∀ {n:Nat} {w:World} {x:TV} {T:Tr},Bb n w x T->∃(a1 a2 a3 a4:Option Addr) (c1 c2 c3 c4:Nat),x=⟨T.leaf, .slice a1 T.pairs.length c1, .slice a2 T.cuts.length c2, .slice a3 T.kids.length c3, .slice a4 T.buf.length c4⟩
 |0,_,_,_,h=>h.elim
 |_+1,_,⟨lf,p,c,k,b⟩,T,⟨h1,h2,h3,h4,xs,h5,h6,h7⟩=>by
  simp only at h1 h2 h3 h4 h6
  obtain⟨a1,c1,rfl,_⟩:=h2.len
  obtain⟨a2,c2,rfl,_⟩:=h3.len
  obtain⟨a4,c4,rfl,_⟩:=h4.len
  obtain⟨a3,c3,rfl,_⟩:=h6.len
  subst h1;exact⟨a1,a2,a3,a4,c1,c2,c3,c4,by rw[h5]⟩

structure EM (u:World) (B:Nat) (A Z O:Array Value):Prop where
 h0:u.heap[B]? =some (.cells A 54 (0,0))
 h1:u.heap[B+1]? =some (.cells Z 69 (0,0))
 h2:u.heap[B+1+1]? =some (.cells O 69 (0,0))
theorem EM.size {u:World} {B:Nat} {A Z O:Array Value} (h:EM u B A Z O):B+3<=u.heap.size:=by
 have:=(Array.getElem?_eq_some_iff.1 h.h2).1
 omega
theorem EM.step {u w' :World} {B:Nat} {A Z O:Array Value} (h:EM u B A Z O) (hb:Below u.heap.size u w'):EM w' B A Z O:=by
 have hs:=h.size
 exact⟨(hb.block _ (by omega)).trans h.h0,(hb.block _ (by omega)).trans h.h1,(hb.block _ (by omega)).trans h.h2⟩
theorem EM.set {u:World} {B:Nat} {A Z O:Array Value} (h:EM u B A Z O) (j:Nat) (v:Value):EM (u.setCell ⟨B+1+1,j,none⟩ v) B A Z (O.setIfInBounds j v):=by
 refine⟨?_, ?_,heap_setCell_same u (B+1+1) j O 69 v h.h2⟩
 ·rw[Below.heap_setCell _ _ _ _ (by show B≠B+1+1;omega)];exact h.h0
 ·rw[Below.heap_setCell _ _ _ _ (by show B+1≠B+1+1;omega)];exact h.h1
theorem EM.cells {u:World} {B:Nat} {A Z O:Array Value} (h:EM u B A Z O):(∀j,u.cell? ⟨B,j,none⟩=A[j]?)/\(∀j,u.cell? ⟨B+1,j,none⟩=Z[j]?)/\(∀j,u.cell? ⟨B+1+1,j,none⟩=O[j]?)/\(∀j,u.frozen? ⟨B+1,j,none⟩=false)/\(∀j,u.frozen? ⟨B+1+1,j,none⟩=false):=
 ⟨fun j=>cell_of_row u B j A 54 (0,0) h.h0,fun j=>cell_of_row u (B+1) j Z 69 (0,0) h.h1,fun j=>cell_of_row u (B+1+1) j O 69 (0,0) h.h2,fun j=>frozen_of_row u (B+1) j Z 69 h.h1,fun j=>frozen_of_row u (B+1+1) j O 69 h.h2⟩
theorem EM.start (w:World) (A Z O:Array Value):EM (((w.alloc (.cells A 54)).alloc (.cells Z 69)).alloc (.cells O 69)) w.heap.size A Z O:=by
 have e:∀(x:World) (o:Obj),(x.alloc o).heap.size=x.heap.size+1:=fun x o=>by simp
 have k1:∀(x:World) (o:Obj) (g:Nat),g<x.heap.size->(x.alloc o).heap[g]? =x.heap[g]? :=fun x o g hg=>((Below.refl x.heap.size x).alloc (Nat.le_refl _) o).block g hg
 refine⟨?_, ?_, ?_⟩
 ·rw[k1 _ _ _ (by rw[e,e];omega),k1 _ _ _ (by rw[e];omega)];exact heap_alloc_new w _
 ·rw[k1 _ _ _ (by rw[e,e];omega), ← e w (.cells A 54)];exact heap_alloc_new _ _
 ·rw[show w.heap.size+1+1=((w.alloc (.cells A 54)).alloc (.cells Z 69)).heap.size by rw[e,e]];exact heap_alloc_new _ _
end
section
open Go.RowKit

structure Bv where
 x:TV
 v:Value
abbrev Bv.arr (m:Bv):Array Value:= #[.bool m.x.lf,m.x.p,m.x.c,m.x.k,m.x.b,m.v]
abbrev Bv.val (m:Bv):Value:= .agg #[.bool m.x.lf,m.x.p,m.x.c,m.x.k,m.x.b,m.v]
def DJ (n:Nat) (w:World) (m:Bv) (T:Tr) (l:DL):Prop:=Bb n w m.x T/\Row w m.v l.length (Au l)
theorem DJ.below {n:Nat} {w w' :World} {m:Bv} {T:Tr} {l:DL} (h:DJ n w m T l) (hb:Below w.heap.size w w'):DJ n w' m T l:=⟨h.1.below hb,h.2.below hb⟩
theorem Eo (n:Nat) (m:Bv) (T:Tr) (l:DL) (left:Int) (w:World) (h:DJ n w m T l) (h0:0<=left) (h1:left<=1048576) :
  Calls Tryz.prog 56 #[m.val, .int .i64 left] w fun e w' =>e= .returned (.int .i64 (Cp left (Az n T+l.length)))/\Below w.heap.size w w' :=by
 obtain⟨a5,c5,hv,hle⟩:=h.2.len
 obtain⟨⟨lf,p,c,k,b⟩,v⟩:=m
 simp only at hv
 subst hv;have H:Hid _:=h.1
 have N1:Hid (Ai 56 (w.alloc (.cells #[.bool lf,p,c,k,b, .slice a5 l.length c5] 56)) w.heap.size #[.bool lf,p,c,k,b, .slice a5 l.length c5]):=Ai.start _ w _
 have B1:Hid (Below w.heap.size w (w.alloc (.cells #[.bool lf,p,c,k,b, .slice a5 l.length c5] 56))):=Ae _ _
 have S1:Hid (∀w0,Below w.heap.size w w0->Calls Tryz.prog 96 #[.agg #[.bool lf,p,c,k,b], .int .i64 left] w0 fun e w' =>e= .returned (.int .i64 (Cp left (Az n T)))/\Below w0.heap.size w0 w'):=fun w0 hb=>IL n ⟨lf,p,c,k,b⟩ T left w0 (H.out.below hb) h0 h1
 have c1:=N1.out.cells
 clear h H;show Calls Tryz.prog 56 #[.agg #[.bool lf,p,c,k,b, .slice a5 l.length c5], .int .i64 left] w _
 by_cases hs:(Az n T:Int)<=left
 ·have hs' :Cp left (Az n T)=left-Az n T:=E5 hs
  have hs2:Hid (Cp left (Az n T+l.length)=if (l.length:Int)<=left-Az n T then left-Az n T-l.length else -1):=by
   show _=_
   unfold Cp;split<;>split<;>omega
  rw[hs'] at S1
  clear hs';rw[hs2.out]
  generalize Az n T=sz at *
  go_enter Tryz.func56,Tryz.ntmps56
  go_wp2_with fail;generalize w.alloc (.cells #[.bool lf,p,c,k,b, .slice a5 l.length c5] 56)=W at *
  refine Calls.mono (S1.out _ B1.out) ?_
  rintro e w1 ⟨rfl,b1⟩
  have B3:Hid (Below w.heap.size w w1):=Below.and B1.out b1
  have N3:Hid (Ai 56 w1 w.heap.size #[.bool lf,p,c,k,b, .slice a5 l.length c5]):=N1.out.step b1
  clear c1 N1 B1 b1;have c1:=N3.out.cells
  have hnn:¬(left-(sz:Int)<0):=by omega
  go_wp2_with fail;refine Calls.mono (Ia a5 l.length c5 _ hle (by omega) (by omega) _) ?_
  rintro e w2 ⟨rfl,rfl⟩
  by_cases hd:(l.length:Int)<=left-sz
  ·rw[if_pos hd]
   have hn2:¬(left-(sz:Int)-(l.length:Int)<0):=by omega
   go_wp2;go_ret;exact⟨rfl,B3.out⟩
  ·rw[if_neg hd]
   go_wp2;go_ret;exact⟨rfl,B3.out⟩
 ·have hs' :Cp left (Az n T)= -1:=D4 hs
  have hs2:Hid (Cp left (Az n T+l.length)= -1):=D4 (by omega)
  rw[hs'] at S1
  rw[hs2.out]
  go_enter Tryz.func56,Tryz.ntmps56
  go_wp2_with fail;generalize w.alloc (.cells #[.bool lf,p,c,k,b, .slice a5 l.length c5] 56)=W at *
  refine Calls.mono (S1.out _ B1.out) ?_
  rintro e w1 ⟨rfl,b1⟩
  go_wp2;go_ret;exact⟨rfl,Below.and B1.out b1⟩

theorem Es (n:Nat) (m m2:Bv) (T:Tr) (l:DL) (w:World) (h:DJ n w m T l) (h2:DJ n w m2 T l) :
  Calls Tryz.prog 68 #[m.val,m2.val] w fun e w' =>e= .returned (.bool true)/\Below w.heap.size w w' :=by
 obtain⟨⟨lf,p,c,k,b⟩,v⟩:=m
 obtain⟨⟨lf2,p2,c2,k2,b2⟩,v2⟩:=m2
 have H:Hid _:=And.intro h h2
 have N1:Hid (Ai 71 (w.alloc (.cells #[.bool lf,p,c,k,b,v] 71)) w.heap.size #[.bool lf,p,c,k,b,v]):=Ai.start _ w _
 have N2:Hid (Ai 71 ((w.alloc (.cells #[.bool lf,p,c,k,b,v] 71)).alloc (.cells #[.bool lf2,p2,c2,k2,b2,v2] 71)) (w.alloc (.cells #[.bool lf,p,c,k,b,v] 71)).heap.size #[.bool lf2,p2,c2,k2,b2,v2]):=Ai.start _ _ _
 have N1b:Hid (Ai 71 ((w.alloc (.cells #[.bool lf,p,c,k,b,v] 71)).alloc (.cells #[.bool lf2,p2,c2,k2,b2,v2] 71)) w.heap.size #[.bool lf,p,c,k,b,v]):=N1.out.step (Ae _ _)
 have B2:Hid (Below w.heap.size w ((w.alloc (.cells #[.bool lf,p,c,k,b,v] 71)).alloc (.cells #[.bool lf2,p2,c2,k2,b2,v2] 71))):=Below.and (Ae _ _) (Ae _ _)
 have e1:(w.alloc (.cells #[.bool lf,p,c,k,b,v] 71)).heap.size=w.heap.size+1:=by simp
 rw[e1] at N2
 have c1:=N1b.out.cells
 have d1:=N2.out.cells
 clear N1 e1 h h2;show Calls Tryz.prog 68 #[.agg #[.bool lf,p,c,k,b,v], .agg #[.bool lf2,p2,c2,k2,b2,v2]] w _
 go_enter Tryz.func68,Tryz.ntmps68
 go_wp2_with fail;generalize (w.alloc (.cells #[.bool lf,p,c,k,b,v] 71)).alloc (.cells #[.bool lf2,p2,c2,k2,b2,v2] 71)=W at *
 refine Calls.mono (IW n ⟨lf,p,c,k,b⟩ ⟨lf2,p2,c2,k2,b2⟩ T W (H.out.1.1.below B2.out) (H.out.2.1.below B2.out)) ?_
 rintro e w1 ⟨rfl,b1⟩
 have B3:Hid (Below w.heap.size w w1):=Below.and B2.out b1
 have N3:Hid (Ai 71 w1 w.heap.size #[.bool lf,p,c,k,b,v]):=N1b.out.step b1
 have N4:Hid (Ai 71 w1 (w.heap.size+1) #[.bool lf2,p2,c2,k2,b2,v2]):=N2.out.step b1
 clear c1 d1 N1b N2 B2 b1;have c1:=N3.out.cells
 have d1:=N4.out.cells
 go_wp2_with fail;refine Calls.mono (H3 v v2 l l w1 (H.out.1.2.below B3.out) (H.out.2.2.below B3.out)) ?_
 rintro e w2 ⟨rfl,b2⟩
 rw[decide_eq_true rfl]
 go_wp2;go_ret;exact⟨rfl,Below.and B3.out b2⟩
end
end Go.Proofs.YtkcaelfkcepdkaaGreat
