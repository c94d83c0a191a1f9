/-
  The contract of the program's kid.
  Contracts of the program's chapter 2: pairsOk, cutsOk, bufOk.
  Contracts of the program's chapter 2: bufOk.
-/
import Derived.Test.YtnakaabnjelffaaGreatOfInject4
import Derived.Deep.DeepCutAuto
namespace Go.Proofs.YtnakaabnjelffaaGreat
set_option maxRecDepth 100000
set_option maxHeartbeats 8000000
section
open Go.RowKit

theorem Cj {P:Program} {code:Code} {Q:Exit->Act->World->Prop} {a:Act} {w0:World} (S:World->Prop) (h0:S w0) (h:∀W,S W->Code.wp P code Q a W):Code.wp P code Q a w0:=h _ h0

structure Hd (u:World) (B:Nat) (A Z K:Array Value):Prop where
 h0:u.heap[B]? =some (.cells A 72 (0,0))
 h1:u.heap[B+1]? =some (.cells Z 72 (0,0))
 h2:u.heap[B+1+1]? =some (.cells K 29 (0,0))
theorem Hd.step {u w' :World} {B:Nat} {A Z K:Array Value} (h:Hd u B A Z K) (hb:Below u.heap.size u w'):Hd w' B A Z K:=by
 have hs:=(Array.getElem?_eq_some_iff.1 h.h2).1
 exact⟨(hb.block _ (by omega)).trans h.h0,(hb.block _ (by omega)).trans h.h1,(hb.block _ (by omega)).trans h.h2⟩
theorem Hd.cells {u:World} {B:Nat} {A Z K:Array Value} (h:Hd u B A Z K):(∀j,u.cell? ⟨B,j,none⟩=A[j]?)/\(∀j,u.cell? ⟨B+1,j,none⟩=Z[j]?)/\(∀j,u.frozen? ⟨B+1,j,none⟩=false)/\(∀j,u.cell? ⟨B+1+1,j,none⟩=K[j]?):=
 ⟨fun j=>cell_of_row u B j A 72 (0,0) h.h0,fun j=>cell_of_row u (B+1) j Z 72 (0,0) h.h1,fun j=>frozen_of_row u (B+1) j Z 72 h.h1,fun j=>cell_of_row u (B+1+1) j K 29 (0,0) h.h2⟩
theorem XP (n:Nat) (x:TV) (T:Tr) (kd lo hi ab:Int) (i:Nat) (w:World) (ht:AO (n+1) w x T) (hi3:i<T.kids.length) (hcl:T.cuts.length+1=T.kids.length) (h3:T.kids.length<=4) (hab0:0<=ab) (hab:ab<=7) :
  Calls Tryz.prog 109 #[Dw kd lo hi ab x, .int .i64 i] w fun e w' =>∃y:TV,e= .returned (Dw (Cb (AV T i)) (CM T lo i) (toT T hi i) (ab+1) y)/\AO n w y (AV T i)/\Below w.heap.size w w' :=by
 obtain⟨lf,p,c,k,b⟩:=x
 obtain⟨-,hp,hc,hb,hk⟩:=ht.parts
 simp only at hp hc hb hk
 obtain⟨a1,q1,rfl, -⟩:=hp.len
 obtain⟨a4,q4,rfl, -⟩:=hb.len
 obtain⟨a2,b2,off2,q2,rfl,hcap2,hmax2,ha2,cc⟩:=hc.ints
 obtain⟨xs,hxl,hrow,hkt⟩:=hk
 obtain⟨a3,b3,off3,q3,he3,hcap3,hmax3,ha3,c0,c1,c2,c3,c4⟩:=hrow.trees
 rw[hxl] at he3 hcap3 ha3 c0 c1 c2 c3 c4 hkt
 subst he3;unfold maxLen at hmax2 hmax3;have TT:AO n w (Ay xs i) (AV T i):=hkt i hi3
 obtain⟨r1,r2,r3,r4,s1,s2,s3,s4,hy⟩:=TT.shape
 have d0:=c0 i hi3
 have d1:=c1 i hi3
 have d2:=c2 i hi3
 have d3:=c3 i hi3
 have d4:=c4 i hi3
 rw[hy] at TT d0 d1 d2 d3 d4
 simp only at d0 d1 d2 d3 d4
 have TH:Hid _:=TT
 have KN:Hid (∀w0,Below w.heap.size w w0->Calls Tryz.prog 76 #[.agg #[.bool (AV T i).leaf, .slice r1 (AV T i).pairs.length s1, .slice r2 (AV T i).cuts.length s2, .slice r3 (AV T i).kids.length s3, .slice r4 (AV T i).buf.length s4]] w0 fun e w' =>e= .returned (.int .i64 (Cb (AV T i)))/\Below w0.heap.size w0 w'):=fun w0 hb=>L6 n ⟨_,_,_,_,_⟩ (AV T i) w0 (TT.below hb)
 clear TT c0 c1 c2 c3 c4 hkt hxl hrow hp hc hb ht hy;have hal:=ha3 (by omega)
 subst hal;clear ha3;have bl3:=Aa d0
 generalize Cb (AV T i)=KD at *
 generalize (AV T i).leaf=z0 at *
 generalize (AV T i).pairs.length=z1 at *
 generalize (AV T i).cuts.length=z2 at *
 generalize (AV T i).kids.length=z3 at *
 generalize (AV T i).buf.length=z4 at *
 have F0:Hid (i=0->CM T lo i=lo):=fun h=>by rw[CM,if_pos h]
 have F1:Hid (∀j,i=j+1->CM T lo i=iAt T.cuts j):=fun j h=>by rw[CM,if_neg (by omega),h];rfl
 have F2:Hid (i<T.cuts.length->toT T hi i=iAt T.cuts i):=fun h=>by rw[toT,if_pos h]
 have F3:Hid (¬i<T.cuts.length->toT T hi i=hi):=fun h=>by rw[toT,if_neg h]
 generalize CM T lo i=FR at *
 generalize toT T hi i=TO at *
 generalize T.cuts.length=n2 at *
 generalize T.kids.length=n3 at *
 generalize T.pairs.length=n1 at *
 generalize T.buf.length=n4 at *
 show Calls Tryz.prog 109 #[.agg #[.int .i64 kd, .int .i64 lo, .int .i64 hi, .int .i64 ab, .bool lf, .slice a1 n1 q1, .slice a2 n2 q2, .slice (some ⟨b3,off3,none⟩) n3 q3, .slice a4 n4 q4], .int .i64 i] w _
 go_enter Tryz.func109,Tryz.ntmps109
 go_wp2_with fail;go_quiet (fail)
 go_upto_region 2 with fail
 refine Cj (fun W=>Cq 72 W w.heap.size #[.int .i64 kd, .int .i64 lo, .int .i64 hi, .int .i64 ab, .bool lf, .slice a1 n1 q1, .slice a2 n2 q2, .slice (some ⟨b3,off3,none⟩) n3 q3, .slice a4 n4 q4]/\Cq 72 W (w.heap.size+1) #[.int .i64 0, .int .i64 0, .int .i64 0, .int .i64 0, .bool false, .slice none 0 0, .slice none 0 0, .slice none 0 0, .slice none 0 0]/\W.heap.size=w.heap.size+1+1/\Below w.heap.size w W) ⟨?_, ?_, ?_,below_drewN (((Below.refl _ _).alloc (Nat.le_refl _) _).alloc (by simp) _) _⟩ ?_
 ·exact(Cq.start 72 w _).step ((below_drewN ((Below.refl _ _).alloc (Nat.le_refl _) _) _))
 ·exact(show Cq 72 ((w.alloc _).alloc _) (w.heap.size+1) _ from Cq.second 72 72 w _ _).step (below_drewN (Below.refl _ _) _)
 ·simp
 rintro W ⟨SA,SZ,hsz,BW⟩
 have k0:=SA.cells
 have e0:=(BW.cell (by exact Aa d0)).trans d0
 have e1:=(BW.cell (by exact Aa d1)).trans d1
 have e2:=(BW.cell (by exact Aa d2)).trans d2
 have e3:=(BW.cell (by exact Aa d3)).trans d3
 have e4:=(BW.cell (by exact Aa d4)).trans d4
 have CW:Hid (∀j,j<n2->W.cell? ⟨b2,off2+j,none⟩=some (.int .i64 (iAt T.cuts j))):=fun j hj=>(BW.cell (by exact Aa (cc j hj))).trans (cc j hj)
 have A2:Hid (0<n2->a2=some ⟨b2,off2,none⟩):=ha2
 have SA' :Hid (Cq 72 W w.heap.size #[.int .i64 kd, .int .i64 lo, .int .i64 hi, .int .i64 ab, .bool lf, .slice a1 n1 q1, .slice a2 n2 q2, .slice (some ⟨b3,off3,none⟩) n3 q3, .slice a4 n4 q4]):=SA
 have SZ' :Hid (Cq 72 W (w.heap.size+1) #[.int .i64 0, .int .i64 0, .int .i64 0, .int .i64 0, .bool false, .slice none 0 0, .slice none 0 0, .slice none 0 0, .slice none 0 0]):=SZ
 have BW' :Hid (Below w.heap.size w W):=BW
 have HS:Hid (W.heap.size=w.heap.size+1+1):=hsz
 clear SA SZ BW d0 d1 d2 d3 d4 cc ha2 bl3 hsz;go_upto_if 15 with fail
 go_cut [5] (fun s wx=>s= .int .i64 FR/\wx=W)
 case first=>
  cases i with
  |zero=>
   have E1:=F0.out rfl
   subst E1;go_wp2;go_meet
   case rel=>exact⟨rfl,rfl⟩
  |succ i=>
   have E1:=F1.out i rfl
   have hal:=A2.out (by omega)
   subst hal;have dc:=CW.out i (by omega)
   subst E1;have hpos:(0:Int)<((i+1:Nat):Int):=by omega
   have hpos2:0<i+1:=by omega
   have hin:i<n2:=by omega
   have hwk:IntKind.i64.wrap (i:Int)=(i:Int):=by rw[IntKind.wrap_i64];omega
   go_wp2;go_meet
   case rel=>exact⟨rfl,rfl⟩
 case rest=>
 obtain⟨rfl,hw⟩:=hcut
 rw[hw]
 clear hw wc;go_upto_if 28 with fail
 go_cut [6] (fun s wx=>s= .int .i64 TO/\wx=W)
 case first=>
  by_cases hl2:i<n2
  ·have E2:=F2.out hl2
   have hal:=A2.out (by omega)
   subst hal;have dc:=CW.out i hl2
   subst E2;go_wp2;go_meet
   case rel=>exact⟨rfl,rfl⟩
  ·have E2:=F3.out hl2
   subst E2;go_wp2;go_meet
   case rel=>exact⟨rfl,rfl⟩
 case rest=>
 obtain⟨rfl,hw⟩:=hcut
 rw[hw]
 clear hw wc CW A2 F0 F1 F2 F3;have hsz:=HS.out
 go_wp2_with fail;refine Cj (fun V=>Hd V w.heap.size #[.int .i64 kd, .int .i64 lo, .int .i64 hi, .int .i64 ab, .bool lf, .slice a1 n1 q1, .slice a2 n2 q2, .slice (some ⟨b3,off3,none⟩) n3 q3, .slice a4 n4 q4] #[.int .i64 0, .int .i64 0, .int .i64 0, .int .i64 0, .bool false, .slice none 0 0, .slice none 0 0, .slice none 0 0, .slice none 0 0] #[.bool z0, .slice r1 z1 s1, .slice r2 z2 s2, .slice r3 z3 s3, .slice r4 z4 s4]/\Below w.heap.size w V) ⟨?_, ?_⟩ ?_
 ·refine⟨?_, ?_, ?_⟩
  ·exact(Cd W _).block _ (by omega) |>.trans SA'.out
  ·exact(Cd W _).block _ (by omega) |>.trans SZ'.out
  ·rw[←hsz];exact heap_alloc_new W _
 ·exact BW'.out.alloc (by omega) _
 rintro V ⟨SW,BW⟩
 clear hsz;clear k0 e0 e1 e2 e3 e4 SA' SZ' BW' HS;obtain⟨k0,k1,k2,k3⟩:=SW.cells
 have SW' :Hid (Hd V w.heap.size #[.int .i64 kd, .int .i64 lo, .int .i64 hi, .int .i64 ab, .bool lf, .slice a1 n1 q1, .slice a2 n2 q2, .slice (some ⟨b3,off3,none⟩) n3 q3, .slice a4 n4 q4] #[.int .i64 0, .int .i64 0, .int .i64 0, .int .i64 0, .bool false, .slice none 0 0, .slice none 0 0, .slice none 0 0, .slice none 0 0] #[.bool z0, .slice r1 z1 s1, .slice r2 z2 s2, .slice r3 z3 s3, .slice r4 z4 s4]):=SW
 have BW' :Hid (Below w.heap.size w V):=BW
 clear SW BW;go_region_with (go_at_call 76;refine(KN.out _ BW'.out.drew).mono ?_;rintro e w1 ⟨rfl,hb1⟩;have SS:=SW'.out.step (Below.and (Below.refl _ _).drew hb1);clear k0 k1 k2 k3;obtain⟨k0,k1,k2,k3⟩:=SS.cells)
 all_goals
  have B1:Hid (Below w.heap.size w w1):=Below.and BW'.out.drew hb1
  have hwr:IntKind.i64.wrap (ab+1)=ab+1:=by rw[IntKind.wrap_i64];omega
  go_wp2;refine bodyPost_ret (v:= .agg #[.int .i64 KD, .int .i64 FR, .int .i64 TO, .int .i64 (ab+1), .bool z0, .slice r1 z1 s1, .slice r2 z2 s2, .slice r3 z3 s3, .slice r4 z4 s4]) (by simp[results,Tryz.results109,go_sem,k1,hwr]) rfl ⟨⟨z0, .slice r1 z1 s1, .slice r2 z2 s2, .slice r3 z3 s3, .slice r4 z4 s4⟩,rfl,TH.out, ?_⟩
  repeat (refine Below.setCell ?_ (by simp only[];omega) _)
  exact B1.out
end
section
open Go.RowKit

def Cg (T:Tr) (lo hi:Int):Bool:=decide (T.pairs.length<=4)&&(Bo T.pairs&&GZ T lo hi)
theorem Qk {T:Tr} {lo hi:Int} (h:¬T.pairs.length<=4):Cg T lo hi=false:=by rw[Cg,decide_eq_false h];rfl
theorem Q5 {T:Tr} {lo hi:Int} (h:Bo T.pairs=false):Cg T lo hi=false:=by rw[Cg,h];simp
theorem Q9 {T:Tr} {lo hi:Int} {i:Nat} (hi' :i<T.pairs.length) (h:FM T lo hi i=false):Cg T lo hi=false:=by rw[Cg,GZ,Fo hi' h];simp
theorem Q4 {T:Tr} {lo hi:Int} (h1:T.pairs.length<=4) (h2:Bo T.pairs=true) (h3:∀i,i<T.pairs.length->FM T lo hi i=true):Cg T lo hi=true:=by
 rw[Cg,decide_eq_true h1,h2,GZ,DF h3];rfl

theorem Qu (n:Nat) (x:TV) (T:Tr) (kd lo hi ab:Int) (w:World) (ht:AO n w x T) :
  Calls Tryz.prog 78 #[Dw kd lo hi ab x] w fun e w' =>e= .returned (.bool (Cg T lo hi))/\Below w.heap.size w w' :=by
 cases n with
 |zero=>exact ht.elim
 |succ n=>
 obtain⟨lf,p,c,k,b⟩:=x
 obtain⟨-,hp, -, -, -⟩:=ht.parts
 simp only at hp
 obtain⟨a,bb,off,cap,rfl,hcap,hmax,ha,ck,cv⟩:=hp.pairs
 have R1:=hid (hp)
 unfold maxLen at hmax;clear ht hp;have N1:Hid (¬T.pairs.length<=4->Cg T lo hi=false):=Qk
 have N2:Hid (Bo T.pairs=false->Cg T lo hi=false):=Q5
 have N3:Hid (∀i,i<T.pairs.length->FM T lo hi i=false->Cg T lo hi=false):=fun i=>Q9
 have YY:Hid (T.pairs.length<=4->Bo T.pairs=true->(∀i,i<T.pairs.length->FM T lo hi i=true)->Cg T lo hi=true):=Q4
 generalize Cg T lo hi=R at *
 have PA:Hid (∀i,FM T lo hi i=inB (kOf T.pairs i) lo (hi-1)):=fun i=>rfl
 have MO:=hid (fun w1 (hb:Below w.heap.size w w1)=>GI _ T.pairs w1 (R1.out.below hb))
 generalize Bo T.pairs=MB at *
 clear R1;generalize T.pairs.length=n1 at *
 show Calls Tryz.prog 78 #[.agg #[.int .i64 kd, .int .i64 lo, .int .i64 hi, .int .i64 ab, .bool lf, .slice a n1 cap,c,k,b]] w _
 have B0:Hid _:=Cd w (.cells #[.int .i64 kd, .int .i64 lo, .int .i64 hi, .int .i64 ab, .bool lf, .slice a n1 cap,c,k,b] 72)
 have S0:=hid (Cq.start 72 w #[.int .i64 kd, .int .i64 lo, .int .i64 hi, .int .i64 ab, .bool lf, .slice a n1 cap,c,k,b])
 by_cases h4:n1<=4
 case neg=>
  have E:=N1.out h4
  subst E;have h4' :(4:Int)<(n1:Int):=by omega
  clear N1 N2 N3 YY PA MO ck cv ha S0;go_enter Tryz.func78,Tryz.ntmps78
  go_wp2;go_ret;exact⟨rfl,B0.out⟩
 case pos=>
 have h4' :¬(4:Int)<(n1:Int):=by omega
 cases MB with
 |false=>
  have E:=N2.out rfl
  subst E;clear N1 N2 N3 YY PA ck cv ha S0;go_enter Tryz.func78,Tryz.ntmps78
  go_wp2_with fail;refine Calls.mono (MO.out _ B0.out) ?_
  rintro e w1 ⟨rfl,hb1⟩
  have B1:=hid (Below.and B0.out hb1)
  clear hb1;go_wp2;go_ret;exact⟨rfl,B1.out⟩
 |true=>
  have CK:=hid (ck)
  have CV:=hid (cv)
  have A1:=hid (ha)
  clear ck cv ha;go_enter Tryz.func78,Tryz.ntmps78
  go_wp2_with fail;refine Calls.mono (MO.out _ B0.out) ?_
  rintro e w1 ⟨rfl,hb1⟩
  have B1:=hid (Below.and B0.out hb1)
  have S1:=hid (S0.out.step hb1)
  have k0:=S1.out.cells
  clear hb1 B0 S0;go_wp2;go_loopw [21] (fun i wr=>∃k' :Nat,k' <=n1/\i= .int .i64 k' ∧Hid (∀i,i<k' ->FM T lo hi i=true)/\Hid (Below w.heap.size w wr)/\Hid (Cq 72 wr w.heap.size #[.int .i64 kd, .int .i64 lo, .int .i64 hi, .int .i64 ab, .bool lf, .slice a n1 cap,c,k,b]))
   (fun i _=>n1-(intOf i).toNat)
  case atStart=>exact⟨0,Nat.zero_le _,rfl,fun i hi=>absurd hi (Nat.not_lt_zero _),B1,S1⟩
  case round=>
   clear B1 S1 k0;obtain⟨k',hkl,rfl,ALL,BB,SS⟩:=hrel
   have k0:=SS.out.cells
   by_cases hlt:k' < n1
   ·have hal:=A1.out (by omega)
    subst hal;have d0:=(BB.out.cell (by exact Aa (CK.out k' hlt))).trans (CK.out k' hlt)
    have d1:=(BB.out.cell (by exact Aa (CV.out k' hlt))).trans (CV.out k' hlt)
    have hwb:w.heap.size<wr.heap.size:=by
     have:=(Array.getElem?_eq_some_iff.1 SS.out).1
     exact this
    have B2:=hid (fun o=>BB.out.alloc (by omega) o)
    have S2:Hid (∀o,Cq 72 (wr.alloc o) w.heap.size _):=fun o=>SS.out.step (Cd _ _)
    have hwn:¬w.heap.size=wr.heap.size:=by omega
    cases hq:inB (kOf T.pairs k') lo (hi-1)
    ·have E:=N3.out k' hlt hq
     subst E;go_wp2_with fail;refine(Lt _ _ _ _ _ _).mono ?_
     rintro e w2 ⟨he,hb2⟩
     rw[hq] at he
     subst he;have B3:=hid (Below.and (B2.out _) hb2)
     clear hb2;go_wp2;go_ret;exact⟨rfl,B3.out⟩
    ·have OK:=hid (hq)
     go_wp2_with fail;refine(Lt _ _ _ _ _ _).mono ?_
     rintro e w2 ⟨he,hb2⟩
     rw[hq] at he
     subst he;have B3:=hid (Below.and (B2.out _) hb2)
     have S3:=hid ((S2.out _).step hb2)
     clear hb2;go_wp2;go_roundw
     case rel=>exact⟨k' +1,by omega,by go_num,fun i hi=>if h:i<k' then ALL.out i h else by rw[show i=k' by omega];exact OK.out,B3,S3⟩
     case measure=>simp[intOf];omega
   ·have E:=YY.out h4 trivial (fun i hi=>ALL.out i (by omega))
    subst E;go_wp2;go_ret;exact⟨rfl,BB.out⟩

def BK (T:Tr) (lo hi:Int):Bool:=decide (2<=T.kids.length/\T.kids.length<=4)&&(decide (T.cuts.length+1=T.kids.length)&&Fu T lo hi)
theorem Rj {T:Tr} {lo hi:Int} (h:¬(2<=T.kids.length/\T.kids.length<=4)):BK T lo hi=false:=by rw[BK,decide_eq_false h];rfl
theorem QH {T:Tr} {lo hi:Int} (h:¬T.cuts.length+1=T.kids.length):BK T lo hi=false:=by rw[BK,decide_eq_false h];simp
theorem Qy {T:Tr} {lo hi:Int} {i:Nat} (hi' :i<T.cuts.length) (h:FV T lo hi i=false):BK T lo hi=false:=by rw[BK,Fu,Fo hi' h];simp
theorem QT {T:Tr} {lo hi:Int} (h1:2<=T.kids.length/\T.kids.length<=4) (h2:T.cuts.length+1=T.kids.length) (h3:∀i,i<T.cuts.length->FV T lo hi i=true):BK T lo hi=true:=by
 rw[BK,decide_eq_true h1,decide_eq_true h2,Fu,DF h3];rfl
theorem Hs (T:Tr) (lo hi:Int) (k:Nat):FV T lo hi (k+1)=inB (iAt T.cuts (k+1)) (iAt T.cuts k+1) (hi-1):=rfl

theorem Td (n:Nat) (x:TV) (T:Tr) (kd lo hi ab:Int) (w:World) (ht:AO n w x T) :
  Calls Tryz.prog 79 #[Dw kd lo hi ab x] w fun e w' =>e= .returned (.bool (BK T lo hi))/\Below w.heap.size w w' :=by
 cases n with
 |zero=>exact ht.elim
 |succ n=>
 obtain⟨lf,p,c,k,b⟩:=x
 obtain⟨-, -,hc, -,hk⟩:=ht.parts
 simp only at hc hk
 obtain⟨a2,b2,off2,q2,rfl,hcap2,hmax2,ha2,cc⟩:=hc.ints
 obtain⟨a3,q3,rfl,m3⟩:=hk.len
 unfold maxLen at hmax2 m3;clear ht hc hk;have N1:Hid (¬(2<=T.kids.length/\T.kids.length<=4)->BK T lo hi=false):=Rj
 have N2:Hid (¬T.cuts.length+1=T.kids.length->BK T lo hi=false):=QH
 have N3:Hid (∀i,i<T.cuts.length->FV T lo hi i=false->BK T lo hi=false):=fun i=>Qy
 have YY:Hid ((2<=T.kids.length/\T.kids.length<=4)->T.cuts.length+1=T.kids.length->(∀i,i<T.cuts.length->FV T lo hi i=true)->BK T lo hi=true):=QT
 generalize BK T lo hi=R at *
 generalize T.cuts.length=n2 at *
 generalize T.kids.length=n3 at *
 show Calls Tryz.prog 79 #[.agg #[.int .i64 kd, .int .i64 lo, .int .i64 hi, .int .i64 ab, .bool lf,p, .slice a2 n2 q2, .slice a3 n3 q3,b]] w _
 have B0:Hid _:=Cd w (.cells #[.int .i64 kd, .int .i64 lo, .int .i64 hi, .int .i64 ab, .bool lf,p, .slice a2 n2 q2, .slice a3 n3 q3,b] 72)
 have S0:=hid (Cq.start 72 w #[.int .i64 kd, .int .i64 lo, .int .i64 hi, .int .i64 ab, .bool lf,p, .slice a2 n2 q2, .slice a3 n3 q3,b])
 have CC:=hid (cc)
 have A2:=hid (ha2)
 clear cc ha2;by_cases hlo:n3<2
 ·have E:=N1.out (by omega)
  subst E;have h2:(n3:Int)<2:=by omega
  clear N1 N2 N3 YY CC A2 S0;go_enter Tryz.func79,Tryz.ntmps79
  go_wp2_with fail;go_quiet (fail)
  go_wp2;go_ret;exact⟨rfl,below_drewN B0.out _⟩
 by_cases hhi:4<n3
 ·have E:=N1.out (by omega)
  subst E;have h2:¬(n3:Int)<2:=by omega
  have h4:(4:Int)<(n3:Int):=by omega
  clear N1 N2 N3 YY CC A2 S0;go_enter Tryz.func79,Tryz.ntmps79
  go_wp2_with fail;go_quiet (fail)
  go_wp2;go_ret;exact⟨rfl,below_drewN B0.out _⟩
 have h2:¬(n3:Int)<2:=by omega
 have h4:¬(4:Int)<(n3:Int):=by omega
 by_cases hcl:n2+1=n3
 case neg=>
  have E:=N2.out hcl
  subst E;have hc1:((n2:Int) != (n3:Int)-1)=true:=by rw[bne_iff_ne];omega
  clear N1 N2 N3 YY CC A2 S0 hcl;go_enter Tryz.func79,Tryz.ntmps79
  go_wp2_with fail;go_quiet (fail)
  go_wp2;go_ret;exact⟨rfl,below_drewN B0.out _⟩
 case pos=>
 have hc1:((n2:Int) != (n3:Int)-1)=false:=by rw[bne_eq_false_iff_eq];omega
 have YY2:=hid (YY.out ⟨by omega,by omega⟩ hcl)
 clear N1 N2 YY hcl;go_enter Tryz.func79,Tryz.ntmps79
 go_wp2_with fail;go_quiet (fail)
 go_wp2;go_loopw [29] (fun i wr=>∃k' :Nat,k' <=n2/\i= .int .i64 k' ∧Hid (∀i,i<k' ->FV T lo hi i=true/\lo<iAt T.cuts i)/\Hid (Below w.heap.size w wr)/\Hid (Cq 72 wr w.heap.size #[.int .i64 kd, .int .i64 lo, .int .i64 hi, .int .i64 ab, .bool lf,p, .slice a2 n2 q2, .slice a3 n3 q3,b]))
  (fun i _=>n2-(intOf i).toNat)
 case atStart=>exact⟨0,Nat.zero_le _,rfl,fun i hi=>absurd hi (Nat.not_lt_zero _),below_drewN B0.out _,S0.out.step (below_drewN (Below.refl _ _) _)⟩
 case round=>
  clear B0 S0;obtain⟨k',hkl,rfl,ALL,BB,SS⟩:=hrel
  have k0:=SS.out.cells
  by_cases hlt:k' < n2
  ·have hal:=A2.out (by omega)
   subst hal;have d0:=(BB.out.cell (by exact Aa (CC.out k' hlt))).trans (CC.out k' hlt)
   cases hs:inB (iAt T.cuts k') (lo+1) (hi-1)
   ·have E:=N3.out k' hlt (by
     cases k' with
     |zero=>exact hs
     |succ k'=>
      have h1:=(ALL.out k' (by omega)).2
      rw[Hs]
      cases hx:inB (iAt T.cuts (k' +1)) (iAt T.cuts k' +1) (hi-1)
      ·rfl
      ·have h3:=Ey.1 hx
       rw[FD (by omega) (by omega)] at hs
       cases hs)
    subst E;go_wp2_with fail;refine(Ha _ _ _ _ _ _).mono ?_
    rintro e w2 ⟨he,hb2⟩
    rw[hs] at he
    subst he;have B3:=hid (Below.and BB.out hb2)
    clear hb2;go_wp2;go_ret;exact⟨rfl,B3.out⟩
   ·have hs2:=Ey.1 hs
    cases k' with
    |zero=>
     simp only[Nat.add_zero] at d0
     have OK:Hid (FV T lo hi 0=true/\lo<iAt T.cuts 0):=⟨hs,by omega⟩
     go_wp2_with fail;refine(Ha _ _ _ _ _ _).mono ?_
     rintro e w2 ⟨he,hb2⟩
     rw[hs] at he
     subst he;have B3:=hid (Below.and BB.out hb2)
     have S3:=hid (SS.out.step hb2)
     clear hb2;go_wp2;go_roundw
     case rel=>exact⟨1,by omega,by go_num,fun i hi=>by rw[show i=0 by omega];exact OK.out,B3,S3⟩
     case measure=>simp[intOf];omega
    |succ k'=>
     have hpos:(0:Int)<((k' +1:Nat):Int):=by omega
     have hpos2:0<k' +1:=by omega
     have hwk:IntKind.i64.wrap (k' :Int)=(k' :Int):=by rw[IntKind.wrap_i64];omega
     have hk2:k' < n2:=by omega
     have d1:=(BB.out.cell (by exact Aa (CC.out k' hk2))).trans (CC.out k' hk2)
     by_cases ho:iAt T.cuts (k' +1)<=iAt T.cuts k'
     ·have E:=N3.out (k' +1) hlt (by rw[Hs];exact Fl (by omega))
      subst E;go_wp2_with fail;refine(Ha _ _ _ _ _ _).mono ?_
      rintro e w2 ⟨he,hb2⟩
      rw[hs] at he
      subst he;have B3:=hid (Below.and BB.out hb2)
      have f1:=(hb2.cell (by exact Aa d1)).trans d1
      clear hb2;go_wp2;go_ret;exact⟨rfl,B3.out⟩
     ·have OK:Hid (FV T lo hi (k' +1)=true/\lo<iAt T.cuts (k' +1)):=⟨by rw[Hs];exact FD (by omega) (by omega),by omega⟩
      go_wp2_with fail;refine(Ha _ _ _ _ _ _).mono ?_
      rintro e w2 ⟨he,hb2⟩
      rw[hs] at he
      subst he;have B3:=hid (Below.and BB.out hb2)
      have S3:=hid (SS.out.step hb2)
      have f1:=(hb2.cell (by exact Aa d1)).trans d1
      clear hb2;go_wp2;go_roundw
      case rel=>exact⟨k' +1+1,by omega,by go_num,fun i hi=>if h:i<k' +1 then ALL.out i h else by rw[show i=k' +1 by omega];exact OK.out,B3,S3⟩
      case measure=>simp[intOf];omega
  ·have E:=YY2.out (fun i hi=>(ALL.out i (by omega)).1)
   subst E;go_wp2;go_ret;exact⟨rfl,BB.out⟩
end
section
open Go.RowKit

def Dy (T:Tr) (lo hi:Int):Bool:=decide (T.buf.length<=6)&&Gi T lo hi
theorem SM {T:Tr} {lo hi:Int} (h:¬T.buf.length<=6):Dy T lo hi=false:=by rw[Dy,decide_eq_false h];rfl
theorem Tc {T:Tr} {lo hi:Int} {i:Nat} (hi' :i<T.buf.length) (h:Ex T lo hi i=false):Dy T lo hi=false:=by rw[Dy,Gi,Fo hi' h];simp
theorem Tm {T:Tr} {lo hi:Int} (h1:T.buf.length<=6) (h3:∀i,i<T.buf.length->Ex T lo hi i=true):Dy T lo hi=true:=by
 rw[Dy,decide_eq_true h1,Gi,DF h3];rfl

theorem Vh (n:Nat) (x:TV) (T:Tr) (kd lo hi ab:Int) (w:World) (ht:AO n w x T) :
  Calls Tryz.prog 80 #[Dw kd lo hi ab x] w fun e w' =>e= .returned (.bool (Dy T lo hi))/\Below w.heap.size w w' :=by
 cases n with
 |zero=>exact ht.elim
 |succ n=>
 obtain⟨lf,p,c,k,b⟩:=x
 obtain⟨-, -, -,hb, -⟩:=ht.parts
 simp only at hb
 obtain⟨a4,b4,off4,q4,rfl,hcap4,hmax4,ha4,go,gk,gv⟩:=hb.msgs
 unfold maxLen at hmax4;clear ht hb;have N1:Hid (¬T.buf.length<=6->Dy T lo hi=false):=SM
 have N2:Hid (∀i,i<T.buf.length->Ex T lo hi i=false->Dy T lo hi=false):=fun i=>Tc
 have YY:Hid (T.buf.length<=6->(∀i,i<T.buf.length->Ex T lo hi i=true)->Dy T lo hi=true):=Tm
 generalize Dy T lo hi=R at *
 have GO:Hid (∀i,i<T.buf.length->w.cell? ⟨b4,off4+i*3,none⟩=some (.int .i64 (mO T.buf i))):=go
 have GK:Hid (∀i,i<T.buf.length->w.cell? ⟨b4,off4+i*3+1,none⟩=some (.int .i64 (mK T.buf i))):=gk
 have GV:Hid (∀i,i<T.buf.length->w.cell? ⟨b4,off4+i*3+2,none⟩=some (.int .i64 (mV T.buf i))):=gv
 have A4:Hid (0<T.buf.length->a4=some ⟨b4,off4,none⟩):=ha4
 clear go gk gv ha4;generalize T.buf.length=n4 at *
 show Calls Tryz.prog 80 #[.agg #[.int .i64 kd, .int .i64 lo, .int .i64 hi, .int .i64 ab, .bool lf,p,c,k, .slice a4 n4 q4]] w _
 have B0:Hid _:=Cd w (.cells #[.int .i64 kd, .int .i64 lo, .int .i64 hi, .int .i64 ab, .bool lf,p,c,k, .slice a4 n4 q4] 72)
 have S0:Hid (Cq 72 _ w.heap.size _):=Cq.start 72 w #[.int .i64 kd, .int .i64 lo, .int .i64 hi, .int .i64 ab, .bool lf,p,c,k, .slice a4 n4 q4]
 by_cases h6:n4<=6
 case neg=>
  have E:=N1.out h6
  subst E;have h6' :(6:Int)<(n4:Int):=by omega
  clear N1 N2 YY GO GK GV A4 S0;go_enter Tryz.func80,Tryz.ntmps80
  go_wp2;go_ret;exact⟨rfl,B0.out⟩
 case pos=>
 have h6' :¬(6:Int)<(n4:Int):=by omega
 go_enter Tryz.func80,Tryz.ntmps80
 go_wp2;go_loopw [14] (fun i wr=>∃k' :Nat,k' <=n4/\i= .int .i64 k' ∧Hid (∀i,i<k' ->Ex T lo hi i=true)/\Hid (Below w.heap.size w wr)/\Hid (Cq 72 wr w.heap.size #[.int .i64 kd, .int .i64 lo, .int .i64 hi, .int .i64 ab, .bool lf,p,c,k, .slice a4 n4 q4]))
  (fun i _=>n4-(intOf i).toNat)
 case atStart=>exact⟨0,Nat.zero_le _,rfl,fun i hi=>absurd hi (Nat.not_lt_zero _),B0,S0⟩
 case round=>
  clear B0 S0;obtain⟨k',hkl,rfl,ALL,BB,SS⟩:=hrel
  have k0:=SS.out.cells
  by_cases hlt:k' < n4
  ·have hal:=A4.out (by omega)
   subst hal;have d0:=(BB.out.cell (by exact Aa (GO.out k' hlt))).trans (GO.out k' hlt)
   have d1:=(BB.out.cell (by exact Aa (GK.out k' hlt))).trans (GK.out k' hlt)
   have d2:=(BB.out.cell (by exact Aa (GV.out k' hlt))).trans (GV.out k' hlt)
   have hwb:w.heap.size<wr.heap.size:=(Array.getElem?_eq_some_iff.1 SS.out).1
   have hwn:¬w.heap.size=wr.heap.size:=by omega
   have MA:Hid (Ex T lo hi k' =(AK (mO T.buf k') (mK T.buf k') (mV T.buf k')&&(!(mO T.buf k' ==4)&&inB (mK T.buf k') lo (hi-1)))):=rfl
   have NO:Hid (Ex T lo hi k' =false->R=false):=N2.out k' hlt
   generalize mO T.buf k' =o at *
   generalize mK T.buf k' =ky at *
   generalize mV T.buf k' =v at *
   have B2:Hid (Below w.heap.size w (wr.alloc (.cells #[.int .i64 o, .int .i64 ky, .int .i64 v] 31))):=BB.out.alloc (by omega) _
   have S2:Hid (Cq 72 (wr.alloc (.cells #[.int .i64 o, .int .i64 ky, .int .i64 v] 31)) w.heap.size _):=SS.out.step (Cd _ _)
   have M2:Hid (Cq 31 (wr.alloc (.cells #[.int .i64 o, .int .i64 ky, .int .i64 v] 31)) wr.heap.size _):=Cq.start 31 wr #[.int .i64 o, .int .i64 ky, .int .i64 v]
   cases hmo:AK o ky v
   ·have E:=NO.out (by rw[MA.out,hmo];rfl)
    subst E;go_wp2_with fail;refine(Df _ _ _ _).mono ?_
    rintro e w2 ⟨he,hb2⟩
    rw[hmo] at he
    subst he;have B3:Hid (Below w.heap.size w w2):=Below.and B2.out hb2
    clear hb2;go_wp2;go_ret;exact⟨rfl,B3.out⟩
   ·cases ho:(o==4)
    ·cases hq:inB ky lo (hi-1)
     ·have E:=NO.out (by rw[MA.out,hq];simp)
      subst E;go_wp2_with fail;refine(Df _ _ _ _).mono ?_
      rintro e w2 ⟨he,hb2⟩
      rw[hmo] at he
      subst he;have B3:Hid (Below w.heap.size w w2):=Below.and B2.out hb2
      have j0:=(S2.out.step hb2).cells
      have j1:=(M2.out.step hb2).cells
      clear hb2;go_wp2_with fail;refine(Lt _ _ _ _ _ _).mono ?_
      rintro e w3 ⟨he,hb3⟩
      rw[hq] at he
      subst he;have B4:Hid (Below w.heap.size w w3):=Below.and B3.out hb3
      clear hb3;go_wp2;go_ret;exact⟨rfl,B4.out⟩
     ·have OK:Hid (Ex T lo hi k' =true):=by
       show _=_
       rw[MA.out,hmo,ho,hq];rfl
      go_wp2_with fail;refine(Df _ _ _ _).mono ?_
      rintro e w2 ⟨he,hb2⟩
      rw[hmo] at he
      subst he;have B3:=hid (Below.and B2.out hb2)
      have S3:=hid (S2.out.step hb2)
      have j0:=S3.out.cells
      have j1:=(M2.out.step hb2).cells
      clear hb2;go_wp2_with fail;refine(Lt _ _ _ _ _ _).mono ?_
      rintro e w3 ⟨he,hb3⟩
      rw[hq] at he
      subst he;have B4:=hid (Below.and B3.out hb3)
      have S4:=hid (S3.out.step hb3)
      clear hb3;go_wp2;go_roundw
      case rel=>exact⟨k' +1,by omega,by go_num,fun i hi=>if h:i<k' then ALL.out i h else by rw[show i=k' by omega];exact OK.out,B4,S4⟩
      case measure=>simp[intOf];omega
    ·have E:=NO.out (by rw[MA.out,ho];simp)
     subst E;go_wp2_with fail;refine(Df _ _ _ _).mono ?_
     rintro e w2 ⟨he,hb2⟩
     rw[hmo] at he
     subst he;have B3:=hid (Below.and B2.out hb2)
     have j0:=(S2.out.step hb2).cells
     have j1:=(M2.out.step hb2).cells
     clear hb2;go_wp2;go_ret;exact⟨rfl,B3.out⟩
  ·have E:=YY.out h6 (fun i hi=>ALL.out i (by omega))
   subst E;go_wp2;go_ret;exact⟨rfl,BB.out⟩
end
end Go.Proofs.YtnakaabnjelffaaGreat
