/-
  The laws' function that looks for marks in a row of nodes.
  The laws' functions that write marks into a world, and look for them, out of what they do with its five lists.
-/
import Derived.Test.YtkcaelfkcepdkaaGreatOfNote24
import Derived.Test.YtkcaelfkcepdkaaGreatOfNote10
namespace Go.Proofs.YtkcaelfkcepdkaaGreat
set_option maxRecDepth 100000
set_option maxHeartbeats 8000000
section
open Go.RowKit

theorem I6 (n:Nat) (v:Value) (es:List BH) (k:Int) (w:World) (h:Cr Ax (Du (n+1)) w v (Bu (n+1) k es)) (hk0:0<=k) (hk1:k+(AC (BK (n+1)) es es.length:Nat)<=67108864) :
  Calls Tryz.prog 50 #[v, .int .i64 k] w fun e w' =>e= .returned (.int .i64 (k+(AC (BK (n+1)) es es.length:Nat)))/\w' =w:=by
 have hl:(Bu (n+1) k es).length=es.length:=by simp[Bu]
 have hat:∀i,i<es.length->Du (n+1) w (Fv (n+1) (k+(AC (BK (n+1)) es i:Nat)) (es.getD i Ap)):=fun i hi=>h.2 _ (List.mem_map.2 ⟨i,List.mem_range.2 hi,rfl⟩)
 obtain⟨a,b,off,cap,rfl,hle,hmax,ha,hcell⟩:=h.parts (K:=23) (fun _=>rfl)
 rw[hl] at hle ha
 have HC:Hid (∀i,i<es.length->w.rangeAt b (off+i*23) (Ax (Fv (n+1) (k+(AC (BK (n+1)) es i:Nat)) (es.getD i Ap)))):=fun i hi=>by
  have:=hcell w (Below.refl _ _) i (by rw[hl];exact hi)
  simpa[Bu] using this
 have MS:Hid (∀i,i<es.length->AC (BK (n+1)) es (i+1)=AC (BK (n+1)) es i+BK (n+1) (es.getD i Ap)):=fun i hi=>DA _ Ap es i hi
 have ML:Hid (∀i,i<=es.length->AC (BK (n+1)) es i<=AC (BK (n+1)) es es.length):=fun i hi=>EE _ Ap es i _ hi (Nat.le_refl _)
 have M0:Hid (AC (BK (n+1)) es 0=0):=by show _=_;simp[AC]
 have HA:Hid _:=hat
 rw[hl]
 clear h hat hl hcell;generalize hE:(fun i=>es.getD i Ap)=E at *
 have hE' :∀i,es.getD i Ap=E i:=fun i=>by rw[←hE]
 simp only[hE'] at *
 clear hE hE';generalize hTOT:AC (BK (n+1)) es es.length=TOT at *
 generalize AC (BK (n+1)) es=fo at *
 unfold maxLen at hmax;have h63:(es.length:Int)<=9223372036854775807:=by omega
 generalize es.length=m at *
 have HAA:Hid (0<m->a=some ⟨b,off,none⟩):=ha
 clear ha hle hmax;go_enter Tryz.func50,Tryz.ntmps50
 go_wp2;go_loopw [1,5] (fun kk i wr=>∃j:Nat,j<=m/\i= .int .i64 j/\kk= .int .i64 (k+(fo j:Nat))/\wr=w) (fun _ i _=>m-(intOf i).toNat)
 case atStart=>exact⟨0,Nat.zero_le _,rfl,by rw[M0.out];simp,rfl⟩
 case round=>
  obtain⟨j,hj,rfl,rfl,rfl⟩:=hrel
  by_cases hlt:j<m
  ·have hal:=HAA.out (by omega)
   subst hal;have hms:=MS.out j hlt
   have hml:=ML.out (j+1) (by omega)
   have WT:=HA.out j hlt
   have RC:=HC.out j hlt
   clear HA HC ML M0;obtain⟨e,hej⟩:∃e,E j=e:=⟨_,rfl⟩
   obtain⟨a0,ha0⟩:∃x:Int,x=k+(fo j:Nat):=⟨_,rfl⟩
   rw[hej, ← ha0] at WT RC
   rw[hej] at hms
   have hT1:mkT (n+1) e.2.T1=2*e.2.T1.pairs.length+e.2.T1.cuts.length+B6 n e.2.T1.kids+3*e.2.T1.buf.length:=CD n _
   have hT2:mkT (n+1) e.2.T2=2*e.2.T2.pairs.length+e.2.T2.cuts.length+B6 n e.2.T2.kids+3*e.2.T2.buf.length:=CD n _
   have hK:BK (n+1) e=9+6*e.2.l.length+mkT (n+1) e.2.T1+4*e.2.d1.length+e.2.vs.length+e.2.nx.length+e.2.mt.length+mkT (n+1) e.2.T2+4*e.2.d2.length:=rfl
   have g1:nk1 a0 e=a0+5+6*e.2.l.length:=rfl
   have g2:nk2 (n+1) a0 e=nk1 a0 e+1+(mkT (n+1) e.2.T1:Nat):=rfl
   have g3:nk3 (n+1) a0 e=nk2 (n+1) a0 e+4*e.2.d1.length:=rfl
   have g4:nk4 (n+1) a0 e=nk3 (n+1) a0 e+1+e.2.vs.length:=rfl
   have g5:nk5 (n+1) a0 e=nk4 (n+1) a0 e+e.2.nx.length:=rfl
   have g6:nk6 (n+1) a0 e=nk5 (n+1) a0 e+e.2.mt.length:=rfl
   have g7:nk7 (n+1) a0 e=nk6 (n+1) a0 e+2+(mkT (n+1) e.2.T2:Nat):=rfl
   obtain⟨x1,h1⟩:∃x:Int,x=a0+1:=⟨_,rfl⟩
   obtain⟨x2,h2⟩:∃x:Int,x=a0+2:=⟨_,rfl⟩
   obtain⟨x3,h3⟩:∃x:Int,x=a0+3:=⟨_,rfl⟩
   obtain⟨x4,h4⟩:∃x:Int,x=a0+4:=⟨_,rfl⟩
   obtain⟨x5,h5⟩:∃x:Int,x=a0+5:=⟨_,rfl⟩
   obtain⟨x6,h6⟩:∃x:Int,x=nk1 a0 e:=⟨_,rfl⟩
   obtain⟨x7,h7⟩:∃x:Int,x=nk1 a0 e+1:=⟨_,rfl⟩
   obtain⟨x8,h8⟩:∃x:Int,x=nk1 a0 e+1+2*(e.2.T1.pairs.length:Int):=⟨_,rfl⟩
   obtain⟨x9,h9⟩:∃x:Int,x=nk1 a0 e+1+2*(e.2.T1.pairs.length:Int)+e.2.T1.cuts.length:=⟨_,rfl⟩
   obtain⟨x10,h10⟩:∃x:Int,x=nk1 a0 e+1+2*(e.2.T1.pairs.length:Int)+e.2.T1.cuts.length+(B6 n e.2.T1.kids:Nat):=⟨_,rfl⟩
   obtain⟨x11,h11⟩:∃x:Int,x=nk2 (n+1) a0 e:=⟨_,rfl⟩
   obtain⟨x12,h12⟩:∃x:Int,x=nk3 (n+1) a0 e:=⟨_,rfl⟩
   obtain⟨x13,h13⟩:∃x:Int,x=nk3 (n+1) a0 e+1:=⟨_,rfl⟩
   obtain⟨x14,h14⟩:∃x:Int,x=nk4 (n+1) a0 e:=⟨_,rfl⟩
   obtain⟨x15,h15⟩:∃x:Int,x=nk5 (n+1) a0 e:=⟨_,rfl⟩
   obtain⟨x16,h16⟩:∃x:Int,x=nk6 (n+1) a0 e:=⟨_,rfl⟩
   obtain⟨x17,h17⟩:∃x:Int,x=nk6 (n+1) a0 e+1:=⟨_,rfl⟩
   obtain⟨x18,h18⟩:∃x:Int,x=nk6 (n+1) a0 e+2:=⟨_,rfl⟩
   obtain⟨x19,h19⟩:∃x:Int,x=nk6 (n+1) a0 e+2+2*(e.2.T2.pairs.length:Int):=⟨_,rfl⟩
   obtain⟨x20,h20⟩:∃x:Int,x=nk6 (n+1) a0 e+2+2*(e.2.T2.pairs.length:Int)+e.2.T2.cuts.length:=⟨_,rfl⟩
   obtain⟨x21,h21⟩:∃x:Int,x=nk6 (n+1) a0 e+2+2*(e.2.T2.pairs.length:Int)+e.2.T2.cuts.length+(B6 n e.2.T2.kids:Nat):=⟨_,rfl⟩
   obtain⟨x22,h22⟩:∃x:Int,x=nk7 (n+1) a0 e:=⟨_,rfl⟩
   obtain⟨x23,h23⟩:∃x:Int,x=nk7 (n+1) a0 e+4*(e.2.d2.length:Int):=⟨_,rfl⟩
   have EN:Hid (k+(fo (j+1):Nat)=x23):=by show _=_;omega
   obtain⟨p1,⟨pt1,pd1⟩,p3,p4,p5,⟨pt2,pd2⟩⟩:=WT
   obtain⟨-,t2,t3,t4,t5⟩:=pt1.parts
   obtain⟨-,s2,s3,s4,s5⟩:=pt2.parts
   have C0:Hid (Calls Tryz.prog 90 #[e.1.lv, .int .i64 x5] wr fun e' u' =>e' = .returned (.int .i64 x6)/\u' =wr):=by
    subst h23 h22 h21 h20 h19 h18 h17 h16 h15 h14 h13 h12 h11 h10 h9 h8 h7 h6 h5 h4 h3 h2 h1;have z:Row wr e.1.lv (Bh (a0+5) e.2.l.length).length (Af (Bh (a0+5) e.2.l.length)):=p1
    rw[Br] at z
    refine(Fw e.1.lv _ _ wr z (by omega) (by omega) (by omega)).mono ?_
    rintro e' u' ⟨y1,y2⟩
    exact⟨y1.trans (An (by omega)),y2⟩
   have C1:Hid (Calls Tryz.prog 91 #[e.1.s.x.p, .int .i64 x7] wr fun e' u' =>e' = .returned (.int .i64 x8)/\u' =wr):=by
    subst h23 h22 h21 h20 h19 h18 h17 h16 h15 h14 h13 h12 h11 h10 h9 h8 h7 h6 h5 h4 h3 h2 h1;have z:Row wr e.1.s.x.p (Bn (nk1 a0 e+1) e.2.T1.pairs.length).length (AF (Bn (nk1 a0 e+1) e.2.T1.pairs.length)):=t2
    rw[Be] at z
    refine(Em e.1.s.x.p _ _ wr z (by omega) (by omega) (by omega)).mono ?_
    rintro e' u' ⟨y1,y2⟩
    exact⟨y1.trans (An (by omega)),y2⟩
   have C2:Hid (Calls Tryz.prog 92 #[e.1.s.x.c, .int .i64 x8] wr fun e' u' =>e' = .returned (.int .i64 x9)/\u' =wr):=by
    subst h23 h22 h21 h20 h19 h18 h17 h16 h15 h14 h13 h12 h11 h10 h9 h8 h7 h6 h5 h4 h3 h2 h1;have z:Row wr e.1.s.x.c (AS (nk1 a0 e+1+2*(e.2.T1.pairs.length:Int)) e.2.T1.cuts.length).length (Am (AS (nk1 a0 e+1+2*(e.2.T1.pairs.length:Int)) e.2.T1.cuts.length)):=t3
    rw[AO] at z
    refine(Dz e.1.s.x.c _ _ wr z (by omega) (by omega) (by omega)).mono ?_
    rintro e' u' ⟨y1,y2⟩
    exact⟨y1.trans (An (by omega)),y2⟩
   have C3:Hid (Calls Tryz.prog 93 #[e.1.s.x.k, .int .i64 x9] wr fun e' u' =>e' = .returned (.int .i64 x10)/\u' =wr):=by
    subst h23 h22 h21 h20 h19 h18 h17 h16 h15 h14 h13 h12 h11 h10 h9 h8 h7 h6 h5 h4 h3 h2 h1;have z:BR n wr e.1.s.x.k (Cn n (nk1 a0 e+1+2*(e.2.T1.pairs.length:Int)+e.2.T1.cuts.length) e.2.T1.kids):=t5
    refine(Fa n e.1.s.x.k e.2.T1.kids _ wr z (by omega) (by omega)).mono ?_
    rintro e' u' ⟨y1,y2⟩
    exact⟨y1.trans (An (by omega)),y2⟩
   have C4:Hid (Calls Tryz.prog 94 #[e.1.s.x.b, .int .i64 x10] wr fun e' u' =>e' = .returned (.int .i64 x11)/\u' =wr):=by
    subst h23 h22 h21 h20 h19 h18 h17 h16 h15 h14 h13 h12 h11 h10 h9 h8 h7 h6 h5 h4 h3 h2 h1;have z:Row wr e.1.s.x.b (Bl (nk1 a0 e+1+2*(e.2.T1.pairs.length:Int)+e.2.T1.cuts.length+(B6 n e.2.T1.kids:Nat)) e.2.T1.buf.length).length (AW (Bl (nk1 a0 e+1+2*(e.2.T1.pairs.length:Int)+e.2.T1.cuts.length+(B6 n e.2.T1.kids:Nat)) e.2.T1.buf.length)):=t4
    rw[Bd] at z
    refine(DR e.1.s.x.b _ _ wr z (by omega) (by omega) (by omega)).mono ?_
    rintro e' u' ⟨y1,y2⟩
    exact⟨y1.trans (An (by omega)),y2⟩
   have C5:Hid (Calls Tryz.prog 53 #[e.1.s.v, .int .i64 x11] wr fun e' u' =>e' = .returned (.int .i64 x12)/\u' =wr):=by
    subst h23 h22 h21 h20 h19 h18 h17 h16 h15 h14 h13 h12 h11 h10 h9 h8 h7 h6 h5 h4 h3 h2 h1;have z:Row wr e.1.s.v (AG (nk2 (n+1) a0 e) e.2.d1.length).length (Au (AG (nk2 (n+1) a0 e) e.2.d1.length)):=pd1
    rw[A9] at z
    refine(DE e.1.s.v _ _ wr z (by omega) (by omega) (by omega)).mono ?_
    rintro e' u' ⟨y1,y2⟩
    exact⟨y1.trans (An (by omega)),y2⟩
   have C6:Hid (Calls Tryz.prog 95 #[e.1.vv, .int .i64 x13] wr fun e' u' =>e' = .returned (.int .i64 x14)/\u' =wr):=by
    subst h23 h22 h21 h20 h19 h18 h17 h16 h15 h14 h13 h12 h11 h10 h9 h8 h7 h6 h5 h4 h3 h2 h1;have z:Row wr e.1.vv (BI (nk3 (n+1) a0 e+1) e.2.vs.length).length (AJ (BI (nk3 (n+1) a0 e+1) e.2.vs.length)):=p3
    rw[BM] at z
    refine(I9 e.1.vv _ _ wr z (by omega) (by omega) (by omega)).mono ?_
    rintro e' u' ⟨y1,y2⟩
    exact⟨y1.trans (An (by omega)),y2⟩
   have C7:Hid (Calls Tryz.prog 92 #[e.1.nv, .int .i64 x14] wr fun e' u' =>e' = .returned (.int .i64 x15)/\u' =wr):=by
    subst h23 h22 h21 h20 h19 h18 h17 h16 h15 h14 h13 h12 h11 h10 h9 h8 h7 h6 h5 h4 h3 h2 h1;have z:Row wr e.1.nv (AS (nk4 (n+1) a0 e) e.2.nx.length).length (Am (AS (nk4 (n+1) a0 e) e.2.nx.length)):=p4
    rw[AO] at z
    refine(Dz e.1.nv _ _ wr z (by omega) (by omega) (by omega)).mono ?_
    rintro e' u' ⟨y1,y2⟩
    exact⟨y1.trans (An (by omega)),y2⟩
   have C8:Hid (Calls Tryz.prog 92 #[e.1.mv, .int .i64 x15] wr fun e' u' =>e' = .returned (.int .i64 x16)/\u' =wr):=by
    subst h23 h22 h21 h20 h19 h18 h17 h16 h15 h14 h13 h12 h11 h10 h9 h8 h7 h6 h5 h4 h3 h2 h1;have z:Row wr e.1.mv (AS (nk5 (n+1) a0 e) e.2.mt.length).length (Am (AS (nk5 (n+1) a0 e) e.2.mt.length)):=p5
    rw[AO] at z
    refine(Dz e.1.mv _ _ wr z (by omega) (by omega) (by omega)).mono ?_
    rintro e' u' ⟨y1,y2⟩
    exact⟨y1.trans (An (by omega)),y2⟩
   have C9:Hid (Calls Tryz.prog 91 #[e.1.o.x.p, .int .i64 x18] wr fun e' u' =>e' = .returned (.int .i64 x19)/\u' =wr):=by
    subst h23 h22 h21 h20 h19 h18 h17 h16 h15 h14 h13 h12 h11 h10 h9 h8 h7 h6 h5 h4 h3 h2 h1;have z:Row wr e.1.o.x.p (Bn (nk6 (n+1) a0 e+2) e.2.T2.pairs.length).length (AF (Bn (nk6 (n+1) a0 e+2) e.2.T2.pairs.length)):=s2
    rw[Be] at z
    refine(Em e.1.o.x.p _ _ wr z (by omega) (by omega) (by omega)).mono ?_
    rintro e' u' ⟨y1,y2⟩
    exact⟨y1.trans (An (by omega)),y2⟩
   have C10:Hid (Calls Tryz.prog 92 #[e.1.o.x.c, .int .i64 x19] wr fun e' u' =>e' = .returned (.int .i64 x20)/\u' =wr):=by
    subst h23 h22 h21 h20 h19 h18 h17 h16 h15 h14 h13 h12 h11 h10 h9 h8 h7 h6 h5 h4 h3 h2 h1;have z:Row wr e.1.o.x.c (AS (nk6 (n+1) a0 e+2+2*(e.2.T2.pairs.length:Int)) e.2.T2.cuts.length).length (Am (AS (nk6 (n+1) a0 e+2+2*(e.2.T2.pairs.length:Int)) e.2.T2.cuts.length)):=s3
    rw[AO] at z
    refine(Dz e.1.o.x.c _ _ wr z (by omega) (by omega) (by omega)).mono ?_
    rintro e' u' ⟨y1,y2⟩
    exact⟨y1.trans (An (by omega)),y2⟩
   have C11:Hid (Calls Tryz.prog 93 #[e.1.o.x.k, .int .i64 x20] wr fun e' u' =>e' = .returned (.int .i64 x21)/\u' =wr):=by
    subst h23 h22 h21 h20 h19 h18 h17 h16 h15 h14 h13 h12 h11 h10 h9 h8 h7 h6 h5 h4 h3 h2 h1;have z:BR n wr e.1.o.x.k (Cn n (nk6 (n+1) a0 e+2+2*(e.2.T2.pairs.length:Int)+e.2.T2.cuts.length) e.2.T2.kids):=s5
    refine(Fa n e.1.o.x.k e.2.T2.kids _ wr z (by omega) (by omega)).mono ?_
    rintro e' u' ⟨y1,y2⟩
    exact⟨y1.trans (An (by omega)),y2⟩
   have C12:Hid (Calls Tryz.prog 94 #[e.1.o.x.b, .int .i64 x21] wr fun e' u' =>e' = .returned (.int .i64 x22)/\u' =wr):=by
    subst h23 h22 h21 h20 h19 h18 h17 h16 h15 h14 h13 h12 h11 h10 h9 h8 h7 h6 h5 h4 h3 h2 h1;have z:Row wr e.1.o.x.b (Bl (nk6 (n+1) a0 e+2+2*(e.2.T2.pairs.length:Int)+e.2.T2.cuts.length+(B6 n e.2.T2.kids:Nat)) e.2.T2.buf.length).length (AW (Bl (nk6 (n+1) a0 e+2+2*(e.2.T2.pairs.length:Int)+e.2.T2.cuts.length+(B6 n e.2.T2.kids:Nat)) e.2.T2.buf.length)):=s4
    rw[Bd] at z
    refine(DR e.1.o.x.b _ _ wr z (by omega) (by omega) (by omega)).mono ?_
    rintro e' u' ⟨y1,y2⟩
    exact⟨y1.trans (An (by omega)),y2⟩
   have C13:Hid (Calls Tryz.prog 53 #[e.1.o.v, .int .i64 x22] wr fun e' u' =>e' = .returned (.int .i64 x23)/\u' =wr):=by
    subst h23 h22 h21 h20 h19 h18 h17 h16 h15 h14 h13 h12 h11 h10 h9 h8 h7 h6 h5 h4 h3 h2 h1;have z:Row wr e.1.o.v (AG (nk7 (n+1) a0 e) e.2.d2.length).length (Au (AG (nk7 (n+1) a0 e) e.2.d2.length)):=pd2
    rw[A9] at z
    refine(DE e.1.o.v _ _ wr z (by omega) (by omega) (by omega)).mono ?_
    rintro e' u' ⟨y1,y2⟩
    exact⟨y1.trans (An (by omega)),y2⟩
   have CE:Hid (wr.cell? ⟨b,off+j*23,none⟩=some (.int .i64 a0)/\wr.cell? ⟨b,off+j*23+1,none⟩=some (.int .i64 x1)/\wr.cell? ⟨b,off+j*23+2,none⟩=some (.int .i64 x2)/\wr.cell? ⟨b,off+j*23+3,none⟩=some (.int .i64 x3)/\wr.cell? ⟨b,off+j*23+4,none⟩=some (.int .i64 x4)/\wr.cell? ⟨b,off+j*23+5,none⟩=some (e.1.lv)/\wr.cell? ⟨b,off+j*23+6,none⟩=some (.bool (x6%3==0))/\wr.cell? ⟨b,off+j*23+7,none⟩=some (e.1.s.x.p)/\wr.cell? ⟨b,off+j*23+8,none⟩=some (e.1.s.x.c)/\wr.cell? ⟨b,off+j*23+9,none⟩=some (e.1.s.x.k)/\wr.cell? ⟨b,off+j*23+10,none⟩=some (e.1.s.x.b)/\wr.cell? ⟨b,off+j*23+11,none⟩=some (e.1.s.v)/\wr.cell? ⟨b,off+j*23+12,none⟩=some (.int .i64 x12)/\wr.cell? ⟨b,off+j*23+13,none⟩=some (e.1.vv)/\wr.cell? ⟨b,off+j*23+14,none⟩=some (e.1.nv)/\wr.cell? ⟨b,off+j*23+15,none⟩=some (e.1.mv)/\wr.cell? ⟨b,off+j*23+16,none⟩=some (.int .i64 x16)/\wr.cell? ⟨b,off+j*23+17,none⟩=some (.bool (x17%3==0))/\wr.cell? ⟨b,off+j*23+18,none⟩=some (e.1.o.x.p)/\wr.cell? ⟨b,off+j*23+19,none⟩=some (e.1.o.x.c)/\wr.cell? ⟨b,off+j*23+20,none⟩=some (e.1.o.x.k)/\wr.cell? ⟨b,off+j*23+21,none⟩=some (e.1.o.x.b)/\wr.cell? ⟨b,off+j*23+22,none⟩=some (e.1.o.v)):=by
    subst h23 h22 h21 h20 h19 h18 h17 h16 h15 h14 h13 h12 h11 h10 h9 h8 h7 h6 h5 h4 h3 h2 h1;exact⟨RC 0 _ rfl,RC 1 _ rfl,RC 2 _ rfl,RC 3 _ rfl,RC 4 _ rfl,RC 5 _ rfl,RC 6 _ rfl,RC 7 _ rfl,RC 8 _ rfl,RC 9 _ rfl,RC 10 _ rfl,RC 11 _ rfl,RC 12 _ rfl,RC 13 _ rfl,RC 14 _ rfl,RC 15 _ rfl,RC 16 _ rfl,RC 17 _ rfl,RC 18 _ rfl,RC 19 _ rfl,RC 20 _ rfl,RC 21 _ rfl,RC 22 _ rfl⟩
   have HB:Hid (0<=a0/\x23<=67108864):=⟨by omega,by omega⟩
   have CH:Hid (x1=a0+1/\x2=x1+1/\x3=x2+1/\x4=x3+1/\x5=x4+1/\x5<=x6/\x7=x6+1/\x7<=x8/\x8<=x9/\x9<=x10/\x10<=x11/\x11<=x12/\x13=x12+1/\x13<=x14/\x14<=x15/\x15<=x16/\x17=x16+1/\x18=x17+1/\x18<=x19/\x19<=x20/\x20<=x21/\x21<=x22/\x22<=x23):=⟨by omega,by omega,by omega,by omega,by omega,by omega,by omega,by omega,by omega,by omega,by omega,by omega,by omega,by omega,by omega,by omega,by omega,by omega,by omega,by omega,by omega,by omega,by omega⟩
   rw[←ha0]
   clear hT1 hT2 hK g1 g2 g3 g4 g5 g6 g7 hms hml MS p1 pt1 pd1 p3 p4 p5 pt2 pd2 t2 t3 t4 t5 s2 s3 s4 s5 RC;clear h23 h22 h21 h20 h19 h18 h17 h16 h15 h14 h13 h12 h11 h10 h9 h8 h7 h6 h5 h4 h3 h2 h1 ha0 hej;have d0:=CE.out.1
   have b0:0<=a0:=by have:=CH.out;have:=HB.out;omega
   have b1:a0<=67108864:=by have:=CH.out;have:=HB.out;omega
   go_upto_region 7 with fail
   rw[show a0+1=x1 by have:=CH.out;omega]
   clear d0 b0 b1;have d0:=CE.out.2.1
   have b0:0<=x1:=by have:=CH.out;have:=HB.out;omega
   have b1:x1<=67108864:=by have:=CH.out;have:=HB.out;omega
   go_upto_region 10 with fail
   rw[show x1+1=x2 by have:=CH.out;omega]
   clear d0 b0 b1;have d0:=CE.out.2.2.1
   have b0:0<=x2:=by have:=CH.out;have:=HB.out;omega
   have b1:x2<=67108864:=by have:=CH.out;have:=HB.out;omega
   go_upto_region 13 with fail
   rw[show x2+1=x3 by have:=CH.out;omega]
   clear d0 b0 b1;have d0:=CE.out.2.2.2.1
   have b0:0<=x3:=by have:=CH.out;have:=HB.out;omega
   have b1:x3<=67108864:=by have:=CH.out;have:=HB.out;omega
   go_upto_region 16 with fail
   rw[show x3+1=x4 by have:=CH.out;omega]
   clear d0 b0 b1;have d0:=CE.out.2.2.2.2.1
   have b0:0<=x4:=by have:=CH.out;have:=HB.out;omega
   have b1:x4<=67108864:=by have:=CH.out;have:=HB.out;omega
   go_upto_region 19 with fail
   rw[show x4+1=x5 by have:=CH.out;omega]
   clear d0 b0 b1;have d0:=CE.out.2.2.2.2.2.1
   have b0:0<=x5:=by have:=CH.out;have:=HB.out;omega
   have b1:x5<=67108864:=by have:=CH.out;have:=HB.out;omega
   have b2:¬x6<0:=by have:=CH.out;have:=HB.out;omega
   go_wp2_with fail;refine C0.out.mono ?_
   rintro e1 w1 ⟨rfl,hw1⟩
   subst hw1;go_upto_region 22 with fail
   clear d0 b0 b1 b2 C0;have d0:=CE.out.2.2.2.2.2.2.1
   have b0:0<=x6:=by have:=CH.out;have:=HB.out;omega
   have b1:x6<=67108864:=by have:=CH.out;have:=HB.out;omega
   have hne:(((x6%3==0)) != (x6%3==0))=false:=by simp
   go_upto_region 25 with fail
   rw[show x6+1=x7 by have:=CH.out;omega]
   clear d0 b0 b1 hne;have d0:=CE.out.2.2.2.2.2.2.2.1
   have b0:0<=x7:=by have:=CH.out;have:=HB.out;omega
   have b1:x7<=67108864:=by have:=CH.out;have:=HB.out;omega
   have b2:¬x8<0:=by have:=CH.out;have:=HB.out;omega
   go_wp2_with fail;refine C1.out.mono ?_
   rintro e1 w1 ⟨rfl,hw1⟩
   subst hw1;go_upto_region 28 with fail
   clear d0 b0 b1 b2 C1;have d0:=CE.out.2.2.2.2.2.2.2.2.1
   have b0:0<=x8:=by have:=CH.out;have:=HB.out;omega
   have b1:x8<=67108864:=by have:=CH.out;have:=HB.out;omega
   have b2:¬x9<0:=by have:=CH.out;have:=HB.out;omega
   go_wp2_with fail;refine C2.out.mono ?_
   rintro e1 w1 ⟨rfl,hw1⟩
   subst hw1;go_upto_region 31 with fail
   clear d0 b0 b1 b2 C2;have d0:=CE.out.2.2.2.2.2.2.2.2.2.1
   have b0:0<=x9:=by have:=CH.out;have:=HB.out;omega
   have b1:x9<=67108864:=by have:=CH.out;have:=HB.out;omega
   have b2:¬x10<0:=by have:=CH.out;have:=HB.out;omega
   go_wp2_with fail;refine C3.out.mono ?_
   rintro e1 w1 ⟨rfl,hw1⟩
   subst hw1;go_upto_region 34 with fail
   clear d0 b0 b1 b2 C3;have d0:=CE.out.2.2.2.2.2.2.2.2.2.2.1
   have b0:0<=x10:=by have:=CH.out;have:=HB.out;omega
   have b1:x10<=67108864:=by have:=CH.out;have:=HB.out;omega
   have b2:¬x11<0:=by have:=CH.out;have:=HB.out;omega
   go_wp2_with fail;refine C4.out.mono ?_
   rintro e1 w1 ⟨rfl,hw1⟩
   subst hw1;go_upto_region 37 with fail
   clear d0 b0 b1 b2 C4;have d0:=CE.out.2.2.2.2.2.2.2.2.2.2.2.1
   have b0:0<=x11:=by have:=CH.out;have:=HB.out;omega
   have b1:x11<=67108864:=by have:=CH.out;have:=HB.out;omega
   have b2:¬x12<0:=by have:=CH.out;have:=HB.out;omega
   go_wp2_with fail;refine C5.out.mono ?_
   rintro e1 w1 ⟨rfl,hw1⟩
   subst hw1;go_upto_region 40 with fail
   clear d0 b0 b1 b2 C5;have d0:=CE.out.2.2.2.2.2.2.2.2.2.2.2.2.1
   have b0:0<=x12:=by have:=CH.out;have:=HB.out;omega
   have b1:x12<=67108864:=by have:=CH.out;have:=HB.out;omega
   go_upto_region 43 with fail
   rw[show x12+1=x13 by have:=CH.out;omega]
   clear d0 b0 b1;have d0:=CE.out.2.2.2.2.2.2.2.2.2.2.2.2.2.1
   have b0:0<=x13:=by have:=CH.out;have:=HB.out;omega
   have b1:x13<=67108864:=by have:=CH.out;have:=HB.out;omega
   have b2:¬x14<0:=by have:=CH.out;have:=HB.out;omega
   go_wp2_with fail;refine C6.out.mono ?_
   rintro e1 w1 ⟨rfl,hw1⟩
   subst hw1;go_upto_region 46 with fail
   clear d0 b0 b1 b2 C6;have d0:=CE.out.2.2.2.2.2.2.2.2.2.2.2.2.2.2.1
   have b0:0<=x14:=by have:=CH.out;have:=HB.out;omega
   have b1:x14<=67108864:=by have:=CH.out;have:=HB.out;omega
   have b2:¬x15<0:=by have:=CH.out;have:=HB.out;omega
   go_wp2_with fail;refine C7.out.mono ?_
   rintro e1 w1 ⟨rfl,hw1⟩
   subst hw1;go_upto_region 49 with fail
   clear d0 b0 b1 b2 C7;have d0:=CE.out.2.2.2.2.2.2.2.2.2.2.2.2.2.2.2.1
   have b0:0<=x15:=by have:=CH.out;have:=HB.out;omega
   have b1:x15<=67108864:=by have:=CH.out;have:=HB.out;omega
   have b2:¬x16<0:=by have:=CH.out;have:=HB.out;omega
   go_wp2_with fail;refine C8.out.mono ?_
   rintro e1 w1 ⟨rfl,hw1⟩
   subst hw1;go_upto_region 52 with fail
   clear d0 b0 b1 b2 C8;have d0:=CE.out.2.2.2.2.2.2.2.2.2.2.2.2.2.2.2.2.1
   have b0:0<=x16:=by have:=CH.out;have:=HB.out;omega
   have b1:x16<=67108864:=by have:=CH.out;have:=HB.out;omega
   go_upto_region 55 with fail
   rw[show x16+1=x17 by have:=CH.out;omega]
   clear d0 b0 b1;have d0:=CE.out.2.2.2.2.2.2.2.2.2.2.2.2.2.2.2.2.2.1
   have b0:0<=x17:=by have:=CH.out;have:=HB.out;omega
   have b1:x17<=67108864:=by have:=CH.out;have:=HB.out;omega
   have hne:(((x17%3==0)) != (x17%3==0))=false:=by simp
   go_upto_region 58 with fail
   rw[show x17+1=x18 by have:=CH.out;omega]
   clear d0 b0 b1 hne;have d0:=CE.out.2.2.2.2.2.2.2.2.2.2.2.2.2.2.2.2.2.2.1
   have b0:0<=x18:=by have:=CH.out;have:=HB.out;omega
   have b1:x18<=67108864:=by have:=CH.out;have:=HB.out;omega
   have b2:¬x19<0:=by have:=CH.out;have:=HB.out;omega
   go_wp2_with fail;refine C9.out.mono ?_
   rintro e1 w1 ⟨rfl,hw1⟩
   subst hw1;go_upto_region 61 with fail
   clear d0 b0 b1 b2 C9;have d0:=CE.out.2.2.2.2.2.2.2.2.2.2.2.2.2.2.2.2.2.2.2.1
   have b0:0<=x19:=by have:=CH.out;have:=HB.out;omega
   have b1:x19<=67108864:=by have:=CH.out;have:=HB.out;omega
   have b2:¬x20<0:=by have:=CH.out;have:=HB.out;omega
   go_wp2_with fail;refine C10.out.mono ?_
   rintro e1 w1 ⟨rfl,hw1⟩
   subst hw1;go_upto_region 64 with fail
   clear d0 b0 b1 b2 C10;have d0:=CE.out.2.2.2.2.2.2.2.2.2.2.2.2.2.2.2.2.2.2.2.2.1
   have b0:0<=x20:=by have:=CH.out;have:=HB.out;omega
   have b1:x20<=67108864:=by have:=CH.out;have:=HB.out;omega
   have b2:¬x21<0:=by have:=CH.out;have:=HB.out;omega
   go_wp2_with fail;refine C11.out.mono ?_
   rintro e1 w1 ⟨rfl,hw1⟩
   subst hw1;go_upto_region 67 with fail
   clear d0 b0 b1 b2 C11;have d0:=CE.out.2.2.2.2.2.2.2.2.2.2.2.2.2.2.2.2.2.2.2.2.2.1
   have b0:0<=x21:=by have:=CH.out;have:=HB.out;omega
   have b1:x21<=67108864:=by have:=CH.out;have:=HB.out;omega
   have b2:¬x22<0:=by have:=CH.out;have:=HB.out;omega
   go_wp2_with fail;refine C12.out.mono ?_
   rintro e1 w1 ⟨rfl,hw1⟩
   subst hw1;go_upto_region 70 with fail
   clear d0 b0 b1 b2 C12;have d0:=CE.out.2.2.2.2.2.2.2.2.2.2.2.2.2.2.2.2.2.2.2.2.2.2
   have b0:0<=x22:=by have:=CH.out;have:=HB.out;omega
   have b1:x22<=67108864:=by have:=CH.out;have:=HB.out;omega
   have b2:¬x23<0:=by have:=CH.out;have:=HB.out;omega
   go_wp2_with fail;refine C13.out.mono ?_
   rintro e1 w1 ⟨rfl,hw1⟩
   subst hw1;go_wp2;refine⟨?_, ?measure⟩
   iterate 245 apply Exists.intro
   refine⟨?rel,rfl⟩
   case rel=>exact⟨j+1,by omega,by go_num,by rw[EN.out],rfl⟩
   case measure=>simp[intOf];omega
  ·have hjl:j=m:=by omega
   subst hjl;go_wp2;go_ret;exact⟨An (by rw[hTOT]),rfl⟩
end
section
open Go.RowKit

theorem Rc (a:Option Addr) (q:Nat) (k:Int) (w:World):Calls Tryz.prog 14 #[.slice a 0 q, .int .i64 k] w fun e w' =>e= .returned (.int .i64 k)/\w' =w:=by
 go_enter Tryz.func14,Tryz.ntmps14
 go_wp2;go_loop [1,5] (fun kk i=>kk= .int .i64 k/\i= .int .i64 0) (fun _ _=>0)
 case atStart=>exact⟨rfl,rfl⟩
 case round=>
  obtain⟨rfl,rfl⟩:=hrel
  go_wp2;go_ret;exact⟨rfl,rfl⟩
theorem H2 {sz:Int} {na ra ca da la:Option Addr} {ln nc lr rc lk cc ld dc ll lc:Nat} {k k1 k2 k3 k4 k5:Int} {A0 A1 A2 A3 A4 A5:World->Prop} {Pm:Nat->Prop} (w:World) (hP:∀g,Pm g->g<w.heap.size) (h0:∀u,Below w.heap.size w u->A0 u)
  (c1:∀u,A0 u->Calls Tryz.prog 41 #[.slice na ln nc, .int .i64 k] u fun e u' =>e= .returned (.int .i64 k1)/\A1 u' ∧Chg Pm u u')
  (c2:∀u,A1 u->Calls Tryz.prog 14 #[.slice ra lr rc, .int .i64 k1] u fun e u' =>e= .returned (.int .i64 k2)/\A2 u' ∧Chg Pm u u')
  (c3:∀u,A2 u->Calls Tryz.prog 42 #[.slice ca lk cc, .int .i64 k2] u fun e u' =>e= .returned (.int .i64 k3)/\A3 u' ∧Chg Pm u u')
  (c4:∀u,A3 u->Calls Tryz.prog 43 #[.slice da ld dc, .int .i64 k3] u fun e u' =>e= .returned (.int .i64 k4)/\A4 u' ∧Chg Pm u u')
  (c5:∀u,A4 u->Calls Tryz.prog 44 #[.slice la ll lc, .int .i64 k4] u fun e u' =>e= .returned (.int .i64 k5)/\A5 u' ∧Chg Pm u u') :
  Calls Tryz.prog 13 #[.agg #[.int .i64 sz, .slice na ln nc, .slice ra lr rc, .slice ca lk cc, .slice da ld dc, .slice la ll lc], .int .i64 k] w fun e w' =>e= .returned (.int .i64 k5)/\A5 w' ∧Chg Pm w w' :=by
 have B1:=hq (h0 _ (Ae w (.cells #[.int .i64 sz, .slice na ln nc, .slice ra lr rc, .slice ca lk cc, .slice da ld dc, .slice la ll lc] 37)))
 have N1:Hid (Ai 37 (w.alloc (.cells #[.int .i64 sz, .slice na ln nc, .slice ra lr rc, .slice ca lk cc, .slice da ld dc, .slice la ll lc] 37)) w.heap.size #[.int .i64 sz, .slice na ln nc, .slice ra lr rc, .slice ca lk cc, .slice da ld dc, .slice la ll lc]):=Ai.start _ w _
 have CH:Hid (Chg Pm w (w.alloc (.cells #[.int .i64 sz, .slice na ln nc, .slice ra lr rc, .slice ca lk cc, .slice da ld dc, .slice la ll lc] 37))):=(Chg.refl _ _).alloc _
 have HP:=hq hP
 have C1:=hq c1
 have C2:=hq c2
 have C3:=hq c3
 have C4:=hq c4
 have C5:=hq c5
 clear hP h0 c1 c2 c3 c4 c5;have x1:=N1.out.cells
 go_enter Tryz.func13,Tryz.ntmps13
 go_wp2_with fail;generalize w.alloc (.cells #[.int .i64 sz, .slice na ln nc, .slice ra lr rc, .slice ca lk cc, .slice da ld dc, .slice la ll lc] 37)=W at *
 refine(C1.out _ B1.out).mono ?_
 rintro e1 w1 ⟨rfl,b,g⟩
 replace B1:=hq b
 replace N1:Hid (Ai 37 w1 w.heap.size #[.int .i64 sz, .slice na ln nc, .slice ra lr rc, .slice ca lk cc, .slice da ld dc, .slice la ll lc]):=hq (Al N1.out g (fun e=>absurd (HP.out _ e) (Nat.lt_irrefl _)))
 replace CH:=hq (CH.out.trans g (fun _ _ e=>e))
 clear b g x1 C1;have x1:=N1.out.cells
 go_wp2_with fail;refine(C2.out _ B1.out).mono ?_
 rintro e2 w2 ⟨rfl,b,g⟩
 replace B1:=hq b
 replace N1:Hid (Ai 37 w2 w.heap.size #[.int .i64 sz, .slice na ln nc, .slice ra lr rc, .slice ca lk cc, .slice da ld dc, .slice la ll lc]):=hq (Al N1.out g (fun e=>absurd (HP.out _ e) (Nat.lt_irrefl _)))
 replace CH:=hq (CH.out.trans g (fun _ _ e=>e))
 clear b g x1 C2;have x1:=N1.out.cells
 go_wp2_with fail;refine(C3.out _ B1.out).mono ?_
 rintro e3 w3 ⟨rfl,b,g⟩
 replace B1:=hq b
 replace N1:Hid (Ai 37 w3 w.heap.size #[.int .i64 sz, .slice na ln nc, .slice ra lr rc, .slice ca lk cc, .slice da ld dc, .slice la ll lc]):=hq (Al N1.out g (fun e=>absurd (HP.out _ e) (Nat.lt_irrefl _)))
 replace CH:=hq (CH.out.trans g (fun _ _ e=>e))
 clear b g x1 C3;have x1:=N1.out.cells
 go_wp2_with fail;refine(C4.out _ B1.out).mono ?_
 rintro e4 w4 ⟨rfl,b,g⟩
 replace B1:=hq b
 replace N1:Hid (Ai 37 w4 w.heap.size #[.int .i64 sz, .slice na ln nc, .slice ra lr rc, .slice ca lk cc, .slice da ld dc, .slice la ll lc]):=hq (Al N1.out g (fun e=>absurd (HP.out _ e) (Nat.lt_irrefl _)))
 replace CH:=hq (CH.out.trans g (fun _ _ e=>e))
 clear b g x1 C4;have x1:=N1.out.cells
 go_wp2_with fail;refine(C5.out _ B1.out).mono ?_
 rintro e5 w5 ⟨rfl,b,g⟩
 replace B1:=hq b
 replace N1:Hid (Ai 37 w5 w.heap.size #[.int .i64 sz, .slice na ln nc, .slice ra lr rc, .slice ca lk cc, .slice da ld dc, .slice la ll lc]):=hq (Al N1.out g (fun e=>absurd (HP.out _ e) (Nat.lt_irrefl _)))
 replace CH:=hq (CH.out.trans g (fun _ _ e=>e))
 clear b g x1 C5;have x1:=N1.out.cells
 go_wp2;go_ret;exact⟨rfl,B1.out,CH.out⟩

theorem Ls {sz:Int} {na ra ca da la:Option Addr} {ln nc lr rc lk cc ld dc ll lc:Nat} {k k1 k2 k3 k4 k5:Int} (w:World) (n1:¬k1<0) (n2:¬k2<0) (n3:¬k3<0) (n4:¬k4<0) (n5:¬k5<0)
  (c1:∀u,Below w.heap.size w u->Calls Tryz.prog 50 #[.slice na ln nc, .int .i64 k] u fun e u' =>e= .returned (.int .i64 k1)/\u' =u)
  (c2:∀u,Below w.heap.size w u->Calls Tryz.prog 51 #[.slice ra lr rc, .int .i64 k1] u fun e u' =>e= .returned (.int .i64 k2)/\u' =u)
  (c3:∀u,Below w.heap.size w u->Calls Tryz.prog 52 #[.slice ca lk cc, .int .i64 k2] u fun e u' =>e= .returned (.int .i64 k3)/\u' =u)
  (c4:∀u,Below w.heap.size w u->Calls Tryz.prog 53 #[.slice da ld dc, .int .i64 k3] u fun e u' =>e= .returned (.int .i64 k4)/\u' =u)
  (c5:∀u,Below w.heap.size w u->Calls Tryz.prog 54 #[.slice la ll lc, .int .i64 k4] u fun e u' =>e= .returned (.int .i64 k5)/\u' =u) :
  Calls Tryz.prog 15 #[.agg #[.int .i64 sz, .slice na ln nc, .slice ra lr rc, .slice ca lk cc, .slice da ld dc, .slice la ll lc], .int .i64 k] w fun e w' =>e= .returned (.int .i64 k5)/\Below w.heap.size w w' :=by
 have B1:=hq (Ae w (.cells #[.int .i64 sz, .slice na ln nc, .slice ra lr rc, .slice ca lk cc, .slice da ld dc, .slice la ll lc] 37))
 have N1:Hid (Ai 37 (w.alloc (.cells #[.int .i64 sz, .slice na ln nc, .slice ra lr rc, .slice ca lk cc, .slice da ld dc, .slice la ll lc] 37)) w.heap.size #[.int .i64 sz, .slice na ln nc, .slice ra lr rc, .slice ca lk cc, .slice da ld dc, .slice la ll lc]):=Ai.start _ w _
 have C1:=hq c1
 have C2:=hq c2
 have C3:=hq c3
 have C4:=hq c4
 have C5:=hq c5
 clear c1 c2 c3 c4 c5;have x1:=N1.out.cells
 go_enter Tryz.func15,Tryz.ntmps15
 go_wp2_with fail;generalize w.alloc (.cells #[.int .i64 sz, .slice na ln nc, .slice ra lr rc, .slice ca lk cc, .slice da ld dc, .slice la ll lc] 37)=W at *
 refine(C1.out _ B1.out).mono ?_
 rintro e1 w1 ⟨rfl,hw⟩
 subst hw;go_wp2_with fail;refine(C2.out _ B1.out).mono ?_
 rintro e2 w2 ⟨rfl,hw⟩
 subst hw;go_wp2_with fail;refine(C3.out _ B1.out).mono ?_
 rintro e3 w3 ⟨rfl,hw⟩
 subst hw;go_wp2_with fail;refine(C4.out _ B1.out).mono ?_
 rintro e4 w4 ⟨rfl,hw⟩
 subst hw;go_wp2_with fail;refine(C5.out _ B1.out).mono ?_
 rintro e5 w5 ⟨rfl,hw⟩
 subst hw;go_wp2;go_ret;exact⟨rfl,B1.out⟩
end
end Go.Proofs.YtkcaelfkcepdkaaGreat
