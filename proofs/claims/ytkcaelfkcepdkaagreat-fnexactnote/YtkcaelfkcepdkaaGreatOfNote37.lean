/-
  l9Copy: what comes lies in memory of its own.
-/
import Derived.Test.YtkcaelfkcepdkaaGreatOfNote22
import Derived.Test.YtkcaelfkcepdkaaGreatOfNote6
import Derived.Test.YtkcaelfkcepdkaaGreatOfNote34
import Derived.Test.YtkcaelfkcepdkaaGreatOfNote36
import Derived.Test.YtkcaelfkcepdkaaGreatOfNote33
namespace Go.Proofs.YtkcaelfkcepdkaaGreat
set_option maxRecDepth 100000
set_option maxHeartbeats 8000000
section
open Go.RowKit

def Ll (n:Nat) (w:World) (lo:Nat) (N:AL) (D:Nd):Prop:=
 Ac w lo 119 6 N.lv D.l.length (Af D.l)/\AQ n w (fun g=>lo<=g) N.s D.T1 D.d1/\Ac w lo 4 1 N.vv D.vs.length (AJ D.vs)/\Ac w lo 3 1 N.nv D.nx.length (Am D.nx)/\Ac w lo 3 1 N.mv D.mt.length (Am D.mt)/\AQ n w (fun g=>lo<=g) N.o D.T2 D.d2
theorem IY (n:Nat) (N:AL) (D:Nd) (w:World) (h:Bq n w N D) (hs:D.small n) :
  Calls Tryz.prog 60 #[N.val] w fun e w' =>∃M:AL,e= .returned M.val/\N.like M/\Ll n w' w.heap.size M D/\Below w.heap.size w w' :=by
 obtain⟨id,te,vo,lb,lt,lv,⟨⟨sl,sp,sc,sk,sb⟩,sv⟩,ro,vv,nv,mv,cm,⟨⟨ol,op,oc,ok,ob⟩,ov⟩⟩:=N
 obtain⟨p1,p2,p3,p4,p5,p6⟩:=h
 obtain⟨hs1,hs2,hs3,hs4,hs5,hs6,hs7,hs8⟩:=hs
 have L1:Hid (∀u,Below w.heap.size w u->Calls Tryz.prog 97 #[lgV lb lt lv] u fun e w' =>∃v' :Value,e= .returned (lgV lb lt v')/\Ac w' u.heap.size 119 6 v' D.l.length (Af D.l)/\Below u.heap.size u w'):=fun u hu=>NW lb lt lv D.l u (p1.below hu) (by omega)
 have L2:Hid (∀u,Below w.heap.size w u->Calls Tryz.prog 75 #[.agg #[.bool sl,sp,sc,sk,sb,sv]] u fun e w' =>∃m' :Bv,e= .returned m'.val/\AQ n w' (fun g=>u.heap.size<=g) m' D.T1 D.d1/\Below u.heap.size u w'):=fun u hu=>Gp n ⟨⟨sl,sp,sc,sk,sb⟩,sv⟩ D.T1 D.d1 u (p2.below hu) (by omega) hs3
 have L3:Hid (∀u,Below w.heap.size w u->Row u vv D.vs.length (AJ D.vs)):=fun u hu=>p3.below hu
 have R3:=Aj (Cq (n:=D.vs.length) (bytes:=1) (by omega) (by decide))
 have L4:Hid (∀u,Below w.heap.size w u->Row u nv D.nx.length (Am D.nx)):=fun u hu=>p4.below hu
 have R4:=Aj (Cq (n:=D.nx.length) (bytes:=8) (by omega) (by decide))
 have L5:Hid (∀u,Below w.heap.size w u->Row u mv D.mt.length (Am D.mt)):=fun u hu=>p5.below hu
 have R5:=Aj (Cq (n:=D.mt.length) (bytes:=8) (by omega) (by decide))
 have L6:Hid (∀u,Below w.heap.size w u->Calls Tryz.prog 75 #[.agg #[.bool ol,op,oc,ok,ob,ov]] u fun e w' =>∃m' :Bv,e= .returned m'.val/\AQ n w' (fun g=>u.heap.size<=g) m' D.T2 D.d2/\Below u.heap.size u w'):=fun u hu=>Gp n ⟨⟨ol,op,oc,ok,ob⟩,ov⟩ D.T2 D.d2 u (p6.below hu) (by omega) hs8
 have b0:Below w.heap.size w ((w.alloc (.cells #[.int .i64 id, .int .i64 te, .int .i64 vo, .int .i64 lb, .int .i64 lt,lv, .bool sl,sp,sc,sk,sb,sv, .int .i64 ro,vv,nv,mv, .int .i64 cm, .bool ol,op,oc,ok,ob,ov] 73)).alloc (.cells #[.int .i64 0, .int .i64 0, .int .i64 0, .int .i64 0, .int .i64 0, .slice none 0 0, .bool false, .slice none 0 0, .slice none 0 0, .slice none 0 0, .slice none 0 0, .slice none 0 0, .int .i64 0, .slice none 0 0, .slice none 0 0, .slice none 0 0, .int .i64 0, .bool false, .slice none 0 0, .slice none 0 0, .slice none 0 0, .slice none 0 0, .slice none 0 0] 73)):=((Below.refl _ _).alloc (Nat.le_refl _) _).alloc (by simp) _
 have n0:=Ai.step (Ai.start 73 w #[.int .i64 id, .int .i64 te, .int .i64 vo, .int .i64 lb, .int .i64 lt,lv, .bool sl,sp,sc,sk,sb,sv, .int .i64 ro,vv,nv,mv, .int .i64 cm, .bool ol,op,oc,ok,ob,ov]) (Ae _ (.cells #[.int .i64 0, .int .i64 0, .int .i64 0, .int .i64 0, .int .i64 0, .slice none 0 0, .bool false, .slice none 0 0, .slice none 0 0, .slice none 0 0, .slice none 0 0, .slice none 0 0, .int .i64 0, .slice none 0 0, .slice none 0 0, .slice none 0 0, .int .i64 0, .bool false, .slice none 0 0, .slice none 0 0, .slice none 0 0, .slice none 0 0, .slice none 0 0] 73))
 have n1:=Ai.start 73 (w.alloc (.cells #[.int .i64 id, .int .i64 te, .int .i64 vo, .int .i64 lb, .int .i64 lt,lv, .bool sl,sp,sc,sk,sb,sv, .int .i64 ro,vv,nv,mv, .int .i64 cm, .bool ol,op,oc,ok,ob,ov] 73)) #[.int .i64 0, .int .i64 0, .int .i64 0, .int .i64 0, .int .i64 0, .slice none 0 0, .bool false, .slice none 0 0, .slice none 0 0, .slice none 0 0, .slice none 0 0, .slice none 0 0, .int .i64 0, .slice none 0 0, .slice none 0 0, .slice none 0 0, .int .i64 0, .bool false, .slice none 0 0, .slice none 0 0, .slice none 0 0, .slice none 0 0, .slice none 0 0]
 simp only[World.size_alloc] at n1
 have zz:w.heap.size+2<=((w.alloc (.cells #[.int .i64 id, .int .i64 te, .int .i64 vo, .int .i64 lb, .int .i64 lt,lv, .bool sl,sp,sc,sk,sb,sv, .int .i64 ro,vv,nv,mv, .int .i64 cm, .bool ol,op,oc,ok,ob,ov] 73)).alloc (.cells #[.int .i64 0, .int .i64 0, .int .i64 0, .int .i64 0, .int .i64 0, .slice none 0 0, .bool false, .slice none 0 0, .slice none 0 0, .slice none 0 0, .slice none 0 0, .slice none 0 0, .int .i64 0, .slice none 0 0, .slice none 0 0, .slice none 0 0, .int .i64 0, .bool false, .slice none 0 0, .slice none 0 0, .slice none 0 0, .slice none 0 0, .slice none 0 0] 73)).heap.size:=by simp
 have G:Hid (CN w #[.int .i64 id, .int .i64 te, .int .i64 vo, .int .i64 lb, .int .i64 lt,lv, .bool sl,sp,sc,sk,sb,sv, .int .i64 ro,vv,nv,mv, .int .i64 cm, .bool ol,op,oc,ok,ob,ov] ((w.alloc (.cells #[.int .i64 id, .int .i64 te, .int .i64 vo, .int .i64 lb, .int .i64 lt,lv, .bool sl,sp,sc,sk,sb,sv, .int .i64 ro,vv,nv,mv, .int .i64 cm, .bool ol,op,oc,ok,ob,ov] 73)).alloc (.cells #[.int .i64 0, .int .i64 0, .int .i64 0, .int .i64 0, .int .i64 0, .slice none 0 0, .bool false, .slice none 0 0, .slice none 0 0, .slice none 0 0, .slice none 0 0, .slice none 0 0, .int .i64 0, .slice none 0 0, .slice none 0 0, .slice none 0 0, .int .i64 0, .bool false, .slice none 0 0, .slice none 0 0, .slice none 0 0, .slice none 0 0, .slice none 0 0] 73))):=⟨b0,zz,n0,n1⟩
 obtain⟨iL,hiL0,hzL0,hzL1,hzL2⟩:=info_parts Tryz.info4
 obtain⟨iI,hiI0,hzI0,hzI1,hzI2⟩:=info_parts Tryz.info3
 clear p1 p2 p3 p4 p5 p6 hs1 hs2 hs3 hs4 hs5 hs6 hs7 hs8 b0 n1 zz;clear n0;show Calls Tryz.prog 60 #[.agg #[.int .i64 id, .int .i64 te, .int .i64 vo, .int .i64 lb, .int .i64 lt,lv, .bool sl,sp,sc,sk,sb,sv, .int .i64 ro,vv,nv,mv, .int .i64 cm, .bool ol,op,oc,ok,ob,ov]] w _
 go_enter Tryz.func60,Tryz.ntmps60
 go_upto_region 1 with fail
 generalize ((w.alloc (.cells #[.int .i64 id, .int .i64 te, .int .i64 vo, .int .i64 lb, .int .i64 lt,lv, .bool sl,sp,sc,sk,sb,sv, .int .i64 ro,vv,nv,mv, .int .i64 cm, .bool ol,op,oc,ok,ob,ov] 73)).alloc (.cells #[.int .i64 0, .int .i64 0, .int .i64 0, .int .i64 0, .int .i64 0, .slice none 0 0, .bool false, .slice none 0 0, .slice none 0 0, .slice none 0 0, .slice none 0 0, .slice none 0 0, .int .i64 0, .slice none 0 0, .slice none 0 0, .slice none 0 0, .int .i64 0, .bool false, .slice none 0 0, .slice none 0 0, .slice none 0 0, .slice none 0 0, .slice none 0 0] 73))=W0 at *
 have Z0:Hid ((w.heap.size+2)<=W0.heap.size):=G.out.2.1
 go_cut [] (fun wx=>∃(x0:Option Addr × Nat × Nat) (c1:Nat),Hid (CN w #[.int .i64 id, .int .i64 te, .int .i64 vo, .int .i64 lb, .int .i64 lt, .slice x0.1 x0.2.1 x0.2.2, .bool sl,sp,sc,sk,sb,sv, .int .i64 ro,vv,nv,mv, .int .i64 cm, .bool ol,op,oc,ok,ob,ov] wx)/\Hid (c1<=wx.heap.size)/\Hid ((w.heap.size+2)<=c1)/\Hid (Ar wx (w.heap.size+2) c1 119 6 (.slice x0.1 x0.2.1 x0.2.2) D.l.length (Af D.l)))
 case first=>
  as_aux_lemma=>
   have c0:=fun j=>Aa (j:=j) G.out.2.2.1
   go_wp2_with fail;refine(L1.out _ G.out.1).mono ?_
   rintro e w1 ⟨z,rfl,oz,bz⟩
   obtain⟨x0,hz⟩:=oz.sl
   subst hz;have Oz:=Aj (Ar.made (oz.mono (base' :=(w.heap.size+2)) Z0.out))
   have ZN:Hid ((w.heap.size+2)<=w1.heap.size):=Nat.le_trans Z0.out bz.size
   replace G:=Aj (G.out.step bz)
   clear oz bz c0 Z0;have ff1:∀j,w1.frozen? ⟨w.heap.size,j,none⟩=false:=fun j=>Ab G.out.2.2.1
   have dd0:∀j,w1.cell? ⟨w.heap.size,j,none⟩=(#[.int .i64 id, .int .i64 te, .int .i64 vo, .int .i64 lb, .int .i64 lt,lv, .bool sl,sp,sc,sk,sb,sv, .int .i64 ro,vv,nv,mv, .int .i64 cm, .bool ol,op,oc,ok,ob,ov]:Array Value)[j]? :=fun j=>Aa G.out.2.2.1
   have GC:=Aj ((((Chg.refl (fun g=>g=w.heap.size) w1).setAt (w.heap.size) 3 rfl (.int .i64 lb)).setAt (w.heap.size) 4 rfl (.int .i64 lt)).setAt (w.heap.size) 5 rfl (.slice x0.1 x0.2.1 x0.2.2))
   have n2:(((w1.setCell ⟨w.heap.size,3,none⟩ (.int .i64 lb)).setCell ⟨w.heap.size,4,none⟩ (.int .i64 lt)).setCell ⟨w.heap.size,5,none⟩ (.slice x0.1 x0.2.1 x0.2.2)).heap[w.heap.size]? =some (.cells #[.int .i64 id, .int .i64 te, .int .i64 vo, .int .i64 lb, .int .i64 lt, .slice x0.1 x0.2.1 x0.2.2, .bool sl,sp,sc,sk,sb,sv, .int .i64 ro,vv,nv,mv, .int .i64 cm, .bool ol,op,oc,ok,ob,ov] 73 (0,0)):=by simpa using(Aq 5 (.slice x0.1 x0.2.1 x0.2.2) (Aq 4 (.int .i64 lt) (Aq 3 (.int .i64 lb) G.out.2.2.1)))
   have G2:=Aj (G.out.sets GC.out n2)
   have ZS:Hid (w1.heap.size<=(((w1.setCell ⟨w.heap.size,3,none⟩ (.int .i64 lb)).setCell ⟨w.heap.size,4,none⟩ (.int .i64 lt)).setCell ⟨w.heap.size,5,none⟩ (.slice x0.1 x0.2.1 x0.2.2)).heap.size):=by show _<=_;simp
   clear n2;have LTz:w.heap.size<(w.heap.size+2):=by omega
   go_wp2_with fail;go_meet;exact⟨x0,w1.heap.size,G2.out,ZS.out,ZN.out,Oz.out.but GC.out (LTz)⟩
 case rest=>
  clear G Z0 ;obtain⟨x0,c1,G,Z0,Y1,O1⟩:=hcut
  go_upto_region 2 with fail
  go_cut [] (fun wx=>∃(l1:Bool) (x1 x2 x3 x4 x5:Option Addr × Nat × Nat) (c2:Nat),Hid (CN w #[.int .i64 id, .int .i64 te, .int .i64 vo, .int .i64 lb, .int .i64 lt, .slice x0.1 x0.2.1 x0.2.2, .bool l1, .slice x1.1 x1.2.1 x1.2.2, .slice x2.1 x2.2.1 x2.2.2, .slice x3.1 x3.2.1 x3.2.2, .slice x4.1 x4.2.1 x4.2.2, .slice x5.1 x5.2.1 x5.2.2, .int .i64 ro,vv,nv,mv, .int .i64 cm, .bool ol,op,oc,ok,ob,ov] wx)/\Hid (c2<=wx.heap.size)/\Hid (c1<=c2)/\Hid (Ar wx (w.heap.size+2) c1 119 6 (.slice x0.1 x0.2.1 x0.2.2) D.l.length (Af D.l))/\Hid (Bt n wx c1 c2 ⟨⟨l1, .slice x1.1 x1.2.1 x1.2.2, .slice x2.1 x2.2.1 x2.2.2, .slice x3.1 x3.2.1 x3.2.2, .slice x4.1 x4.2.1 x4.2.2⟩, .slice x5.1 x5.2.1 x5.2.2⟩ D.T1 D.d1))
  case first=>
   as_aux_lemma=>
    have c0:=fun j=>Aa (j:=j) G.out.2.2.1
    go_wp2_with fail;refine(L2.out _ G.out.1).mono ?_
    rintro e w2 ⟨z,rfl,oz,bz⟩
    obtain⟨l1,x1,x2,x3,x4,x5,hz⟩:=oz.sl
    subst hz;have Oz:=Aj (Bt.made (oz.mono (G:=fun g=>c1<=g) (fun g hg=>Nat.le_trans Z0.out hg)))
    have ZN:Hid (c1<=w2.heap.size):=Nat.le_trans Z0.out bz.size
    replace G:=Aj (G.out.step bz)
    replace O1:=Aj (O1.out.below bz)
    clear oz bz c0 Z0;have ff1:∀j,w2.frozen? ⟨w.heap.size,j,none⟩=false:=fun j=>Ab G.out.2.2.1
    have dd0:∀j,w2.cell? ⟨w.heap.size,j,none⟩=(#[.int .i64 id, .int .i64 te, .int .i64 vo, .int .i64 lb, .int .i64 lt, .slice x0.1 x0.2.1 x0.2.2, .bool sl,sp,sc,sk,sb,sv, .int .i64 ro,vv,nv,mv, .int .i64 cm, .bool ol,op,oc,ok,ob,ov]:Array Value)[j]? :=fun j=>Aa G.out.2.2.1
    have GC:=Aj (((((((Chg.refl (fun g=>g=w.heap.size) w2).setAt (w.heap.size) 6 rfl (.bool l1)).setAt (w.heap.size) 7 rfl (.slice x1.1 x1.2.1 x1.2.2)).setAt (w.heap.size) 8 rfl (.slice x2.1 x2.2.1 x2.2.2)).setAt (w.heap.size) 9 rfl (.slice x3.1 x3.2.1 x3.2.2)).setAt (w.heap.size) 10 rfl (.slice x4.1 x4.2.1 x4.2.2)).setAt (w.heap.size) 11 rfl (.slice x5.1 x5.2.1 x5.2.2))
    have n2:((((((w2.setCell ⟨w.heap.size,6,none⟩ (.bool l1)).setCell ⟨w.heap.size,7,none⟩ (.slice x1.1 x1.2.1 x1.2.2)).setCell ⟨w.heap.size,8,none⟩ (.slice x2.1 x2.2.1 x2.2.2)).setCell ⟨w.heap.size,9,none⟩ (.slice x3.1 x3.2.1 x3.2.2)).setCell ⟨w.heap.size,10,none⟩ (.slice x4.1 x4.2.1 x4.2.2)).setCell ⟨w.heap.size,11,none⟩ (.slice x5.1 x5.2.1 x5.2.2)).heap[w.heap.size]? =some (.cells #[.int .i64 id, .int .i64 te, .int .i64 vo, .int .i64 lb, .int .i64 lt, .slice x0.1 x0.2.1 x0.2.2, .bool l1, .slice x1.1 x1.2.1 x1.2.2, .slice x2.1 x2.2.1 x2.2.2, .slice x3.1 x3.2.1 x3.2.2, .slice x4.1 x4.2.1 x4.2.2, .slice x5.1 x5.2.1 x5.2.2, .int .i64 ro,vv,nv,mv, .int .i64 cm, .bool ol,op,oc,ok,ob,ov] 73 (0,0)):=by simpa using(Aq 11 (.slice x5.1 x5.2.1 x5.2.2) (Aq 10 (.slice x4.1 x4.2.1 x4.2.2) (Aq 9 (.slice x3.1 x3.2.1 x3.2.2) (Aq 8 (.slice x2.1 x2.2.1 x2.2.2) (Aq 7 (.slice x1.1 x1.2.1 x1.2.2) (Aq 6 (.bool l1) G.out.2.2.1))))))
    have G2:=Aj (G.out.sets GC.out n2)
    have ZS:Hid (w2.heap.size<=((((((w2.setCell ⟨w.heap.size,6,none⟩ (.bool l1)).setCell ⟨w.heap.size,7,none⟩ (.slice x1.1 x1.2.1 x1.2.2)).setCell ⟨w.heap.size,8,none⟩ (.slice x2.1 x2.2.1 x2.2.2)).setCell ⟨w.heap.size,9,none⟩ (.slice x3.1 x3.2.1 x3.2.2)).setCell ⟨w.heap.size,10,none⟩ (.slice x4.1 x4.2.1 x4.2.2)).setCell ⟨w.heap.size,11,none⟩ (.slice x5.1 x5.2.1 x5.2.2)).heap.size):=by show _<=_;simp
    clear n2;have LT1:w.heap.size<(w.heap.size+2):=by have qc1:=Y1.out;omega
    have LTz:w.heap.size<c1:=by have qc1:=Y1.out;omega
    go_wp2_with fail;go_meet;exact⟨l1,x1,x2,x3,x4,x5,w2.heap.size,G2.out,ZS.out,ZN.out,O1.out.but GC.out (LT1),Oz.out.but GC.out (LTz)⟩
  case rest=>
   clear G Z0 O1;obtain⟨l1,x1,x2,x3,x4,x5,c2,G,Z0,Y2,O1,O2⟩:=hcut
   go_upto_region 3 with fail
   go_cut [] (fun wx=>∃(l2:Bool) (x9 x10 x11 x12 x13:Option Addr × Nat × Nat) (c6:Nat),Hid (CN w #[.int .i64 id, .int .i64 te, .int .i64 vo, .int .i64 lb, .int .i64 lt, .slice x0.1 x0.2.1 x0.2.2, .bool l1, .slice x1.1 x1.2.1 x1.2.2, .slice x2.1 x2.2.1 x2.2.2, .slice x3.1 x3.2.1 x3.2.2, .slice x4.1 x4.2.1 x4.2.2, .slice x5.1 x5.2.1 x5.2.2, .int .i64 ro,vv,nv,mv, .int .i64 cm, .bool l2, .slice x9.1 x9.2.1 x9.2.2, .slice x10.1 x10.2.1 x10.2.2, .slice x11.1 x11.2.1 x11.2.2, .slice x12.1 x12.2.1 x12.2.2, .slice x13.1 x13.2.1 x13.2.2] wx)/\Hid (c6<=wx.heap.size)/\Hid (c2<=c6)/\Hid (Ar wx (w.heap.size+2) c1 119 6 (.slice x0.1 x0.2.1 x0.2.2) D.l.length (Af D.l))/\Hid (Bt n wx c1 c2 ⟨⟨l1, .slice x1.1 x1.2.1 x1.2.2, .slice x2.1 x2.2.1 x2.2.2, .slice x3.1 x3.2.1 x3.2.2, .slice x4.1 x4.2.1 x4.2.2⟩, .slice x5.1 x5.2.1 x5.2.2⟩ D.T1 D.d1)/\Hid (Bt n wx c2 c6 ⟨⟨l2, .slice x9.1 x9.2.1 x9.2.2, .slice x10.1 x10.2.1 x10.2.2, .slice x11.1 x11.2.1 x11.2.2, .slice x12.1 x12.2.1 x12.2.2⟩, .slice x13.1 x13.2.1 x13.2.2⟩ D.T2 D.d2))
   case first=>
    as_aux_lemma=>
     have c0:=fun j=>Aa (j:=j) G.out.2.2.1
     go_wp2_with fail;refine(L6.out _ G.out.1).mono ?_
     rintro e w6 ⟨z,rfl,oz,bz⟩
     obtain⟨l2,x9,x10,x11,x12,x13,hz⟩:=oz.sl
     subst hz;have Oz:=Aj (Bt.made (oz.mono (G:=fun g=>c2<=g) (fun g hg=>Nat.le_trans Z0.out hg)))
     have ZN:Hid (c2<=w6.heap.size):=Nat.le_trans Z0.out bz.size
     replace G:=Aj (G.out.step bz)
     replace O1:=Aj (O1.out.below bz)
     replace O2:=Aj (O2.out.below bz)
     clear oz bz c0 Z0;have ff1:∀j,w6.frozen? ⟨w.heap.size,j,none⟩=false:=fun j=>Ab G.out.2.2.1
     have dd0:∀j,w6.cell? ⟨w.heap.size,j,none⟩=(#[.int .i64 id, .int .i64 te, .int .i64 vo, .int .i64 lb, .int .i64 lt, .slice x0.1 x0.2.1 x0.2.2, .bool l1, .slice x1.1 x1.2.1 x1.2.2, .slice x2.1 x2.2.1 x2.2.2, .slice x3.1 x3.2.1 x3.2.2, .slice x4.1 x4.2.1 x4.2.2, .slice x5.1 x5.2.1 x5.2.2, .int .i64 ro,vv,nv,mv, .int .i64 cm, .bool ol,op,oc,ok,ob,ov]:Array Value)[j]? :=fun j=>Aa G.out.2.2.1
     have GC:=Aj (((((((Chg.refl (fun g=>g=w.heap.size) w6).setAt (w.heap.size) 17 rfl (.bool l2)).setAt (w.heap.size) 18 rfl (.slice x9.1 x9.2.1 x9.2.2)).setAt (w.heap.size) 19 rfl (.slice x10.1 x10.2.1 x10.2.2)).setAt (w.heap.size) 20 rfl (.slice x11.1 x11.2.1 x11.2.2)).setAt (w.heap.size) 21 rfl (.slice x12.1 x12.2.1 x12.2.2)).setAt (w.heap.size) 22 rfl (.slice x13.1 x13.2.1 x13.2.2))
     have n2:((((((w6.setCell ⟨w.heap.size,17,none⟩ (.bool l2)).setCell ⟨w.heap.size,18,none⟩ (.slice x9.1 x9.2.1 x9.2.2)).setCell ⟨w.heap.size,19,none⟩ (.slice x10.1 x10.2.1 x10.2.2)).setCell ⟨w.heap.size,20,none⟩ (.slice x11.1 x11.2.1 x11.2.2)).setCell ⟨w.heap.size,21,none⟩ (.slice x12.1 x12.2.1 x12.2.2)).setCell ⟨w.heap.size,22,none⟩ (.slice x13.1 x13.2.1 x13.2.2)).heap[w.heap.size]? =some (.cells #[.int .i64 id, .int .i64 te, .int .i64 vo, .int .i64 lb, .int .i64 lt, .slice x0.1 x0.2.1 x0.2.2, .bool l1, .slice x1.1 x1.2.1 x1.2.2, .slice x2.1 x2.2.1 x2.2.2, .slice x3.1 x3.2.1 x3.2.2, .slice x4.1 x4.2.1 x4.2.2, .slice x5.1 x5.2.1 x5.2.2, .int .i64 ro,vv,nv,mv, .int .i64 cm, .bool l2, .slice x9.1 x9.2.1 x9.2.2, .slice x10.1 x10.2.1 x10.2.2, .slice x11.1 x11.2.1 x11.2.2, .slice x12.1 x12.2.1 x12.2.2, .slice x13.1 x13.2.1 x13.2.2] 73 (0,0)):=by simpa using(Aq 22 (.slice x13.1 x13.2.1 x13.2.2) (Aq 21 (.slice x12.1 x12.2.1 x12.2.2) (Aq 20 (.slice x11.1 x11.2.1 x11.2.2) (Aq 19 (.slice x10.1 x10.2.1 x10.2.2) (Aq 18 (.slice x9.1 x9.2.1 x9.2.2) (Aq 17 (.bool l2) G.out.2.2.1))))))
     have G2:=Aj (G.out.sets GC.out n2)
     have ZS:Hid (w6.heap.size<=((((((w6.setCell ⟨w.heap.size,17,none⟩ (.bool l2)).setCell ⟨w.heap.size,18,none⟩ (.slice x9.1 x9.2.1 x9.2.2)).setCell ⟨w.heap.size,19,none⟩ (.slice x10.1 x10.2.1 x10.2.2)).setCell ⟨w.heap.size,20,none⟩ (.slice x11.1 x11.2.1 x11.2.2)).setCell ⟨w.heap.size,21,none⟩ (.slice x12.1 x12.2.1 x12.2.2)).setCell ⟨w.heap.size,22,none⟩ (.slice x13.1 x13.2.1 x13.2.2)).heap.size):=by show _<=_;simp
     clear n2;have LT1:w.heap.size<(w.heap.size+2):=by have qc1:=Y1.out;have qc2:=Y2.out;omega
     have LT2:w.heap.size<c1:=by have qc1:=Y1.out;have qc2:=Y2.out;omega
     have LTz:w.heap.size<c2:=by have qc1:=Y1.out;have qc2:=Y2.out;omega
     go_wp2_with fail;go_meet;exact⟨l2,x9,x10,x11,x12,x13,w6.heap.size,G2.out,ZS.out,ZN.out,O1.out.but GC.out (LT1),O2.out.but GC.out (LT2),Oz.out.but GC.out (LTz)⟩
   case rest=>
    clear G Z0 O1 O2;obtain⟨l2,x9,x10,x11,x12,x13,c6,G,Z0,Y6,O1,O2,O6⟩:=hcut
    go_upto_region 4 with fail
    go_cut [] (fun wx=>∃(x6:Option Addr × Nat × Nat) (c3:Nat),Hid (CN w #[.int .i64 id, .int .i64 te, .int .i64 vo, .int .i64 lb, .int .i64 lt, .slice x0.1 x0.2.1 x0.2.2, .bool l1, .slice x1.1 x1.2.1 x1.2.2, .slice x2.1 x2.2.1 x2.2.2, .slice x3.1 x3.2.1 x3.2.2, .slice x4.1 x4.2.1 x4.2.2, .slice x5.1 x5.2.1 x5.2.2, .int .i64 ro, .slice x6.1 x6.2.1 x6.2.2,nv,mv, .int .i64 cm, .bool l2, .slice x9.1 x9.2.1 x9.2.2, .slice x10.1 x10.2.1 x10.2.2, .slice x11.1 x11.2.1 x11.2.2, .slice x12.1 x12.2.1 x12.2.2, .slice x13.1 x13.2.1 x13.2.2] wx)/\Hid (c3<=wx.heap.size)/\Hid (c6<=c3)/\Hid (Ar wx (w.heap.size+2) c1 119 6 (.slice x0.1 x0.2.1 x0.2.2) D.l.length (Af D.l))/\Hid (Bt n wx c1 c2 ⟨⟨l1, .slice x1.1 x1.2.1 x1.2.2, .slice x2.1 x2.2.1 x2.2.2, .slice x3.1 x3.2.1 x3.2.2, .slice x4.1 x4.2.1 x4.2.2⟩, .slice x5.1 x5.2.1 x5.2.2⟩ D.T1 D.d1)/\Hid (Bt n wx c2 c6 ⟨⟨l2, .slice x9.1 x9.2.1 x9.2.2, .slice x10.1 x10.2.1 x10.2.2, .slice x11.1 x11.2.1 x11.2.2, .slice x12.1 x12.2.1 x12.2.2⟩, .slice x13.1 x13.2.1 x13.2.2⟩ D.T2 D.d2)/\Hid (Ar wx c6 c3 4 1 (.slice x6.1 x6.2.1 x6.2.2) D.vs.length (AJ D.vs)))
    case first=>
     as_aux_lemma=>
      have c0:=fun j=>Aa (j:=j) G.out.2.2.1
      have c9:=fun j=>Aa (j:=j) (Ad G.out.2.2.1 (al1 _ (.cells #[] 4)))
      go_wp2_with (at_builtin;refine BO (wc.alloc (.cells #[] 4)) rfl _ _ 57 rfl wc.heap.size 4 iL _ 1 1 Tryz.underlying57 hiL0 hzL0 hzL1 hzL2 rfl (by decide) (.slice (some ⟨wc.heap.size,0,none⟩) 0 0) 0 [] rfl (Ac.zero _ _ _ _ _) vv D.vs.length (AJ D.vs) rfl (L3.out _ (Below.and G.out.1 (al1 _ _))) (by rw[DT];omega) (JH _) R3.out.1 R3.out.2 (by simp) ?_)
      rintro z w3 ⟨oz,o2,o3,o4⟩
      have bz:Below wc.heap.size wc w3:=Below.trans (al1 _ _) o3
      clear o2 o3 o4 c9;obtain⟨x6,hz⟩:=oz.sl
      subst hz;have Oz:=Aj (Ar.made (oz.mono (base' :=c6) Z0.out))
      have ZN:Hid (c6<=w3.heap.size):=Nat.le_trans Z0.out bz.size
      replace G:=Aj (G.out.step bz)
      replace O1:=Aj (O1.out.below bz)
      replace O2:=Aj (O2.out.below bz)
      replace O6:=Aj (O6.out.below bz)
      clear oz bz c0 Z0;have ff1:∀j,w3.frozen? ⟨w.heap.size,j,none⟩=false:=fun j=>Ab G.out.2.2.1
      have dd0:∀j,w3.cell? ⟨w.heap.size,j,none⟩=(#[.int .i64 id, .int .i64 te, .int .i64 vo, .int .i64 lb, .int .i64 lt, .slice x0.1 x0.2.1 x0.2.2, .bool l1, .slice x1.1 x1.2.1 x1.2.2, .slice x2.1 x2.2.1 x2.2.2, .slice x3.1 x3.2.1 x3.2.2, .slice x4.1 x4.2.1 x4.2.2, .slice x5.1 x5.2.1 x5.2.2, .int .i64 ro,vv,nv,mv, .int .i64 cm, .bool l2, .slice x9.1 x9.2.1 x9.2.2, .slice x10.1 x10.2.1 x10.2.2, .slice x11.1 x11.2.1 x11.2.2, .slice x12.1 x12.2.1 x12.2.2, .slice x13.1 x13.2.1 x13.2.2]:Array Value)[j]? :=fun j=>Aa G.out.2.2.1
      have GC:=Aj ((Chg.refl (fun g=>g=w.heap.size) w3).setAt (w.heap.size) 13 rfl (.slice x6.1 x6.2.1 x6.2.2))
      have n2:(w3.setCell ⟨w.heap.size,13,none⟩ (.slice x6.1 x6.2.1 x6.2.2)).heap[w.heap.size]? =some (.cells #[.int .i64 id, .int .i64 te, .int .i64 vo, .int .i64 lb, .int .i64 lt, .slice x0.1 x0.2.1 x0.2.2, .bool l1, .slice x1.1 x1.2.1 x1.2.2, .slice x2.1 x2.2.1 x2.2.2, .slice x3.1 x3.2.1 x3.2.2, .slice x4.1 x4.2.1 x4.2.2, .slice x5.1 x5.2.1 x5.2.2, .int .i64 ro, .slice x6.1 x6.2.1 x6.2.2,nv,mv, .int .i64 cm, .bool l2, .slice x9.1 x9.2.1 x9.2.2, .slice x10.1 x10.2.1 x10.2.2, .slice x11.1 x11.2.1 x11.2.2, .slice x12.1 x12.2.1 x12.2.2, .slice x13.1 x13.2.1 x13.2.2] 73 (0,0)):=by simpa using(Aq 13 (.slice x6.1 x6.2.1 x6.2.2) G.out.2.2.1)
      have G2:=Aj (G.out.sets GC.out n2)
      have ZS:Hid (w3.heap.size<=(w3.setCell ⟨w.heap.size,13,none⟩ (.slice x6.1 x6.2.1 x6.2.2)).heap.size):=by show _<=_;simp
      clear n2;have LT1:w.heap.size<(w.heap.size+2):=by have qc1:=Y1.out;have qc2:=Y2.out;have qc6:=Y6.out;omega
      have LT2:w.heap.size<c1:=by have qc1:=Y1.out;have qc2:=Y2.out;have qc6:=Y6.out;omega
      have LT6:w.heap.size<c2:=by have qc1:=Y1.out;have qc2:=Y2.out;have qc6:=Y6.out;omega
      have LTz:w.heap.size<c6:=by have qc1:=Y1.out;have qc2:=Y2.out;have qc6:=Y6.out;omega
      go_wp2_with fail;go_meet;exact⟨x6,w3.heap.size,G2.out,ZS.out,ZN.out,O1.out.but GC.out (LT1),O2.out.but GC.out (LT2),O6.out.but GC.out (LT6),Oz.out.but GC.out (LTz)⟩
    case rest=>
     clear G Z0 O1 O2 O6;obtain⟨x6,c3,G,Z0,Y3,O1,O2,O6,O3⟩:=hcut
     go_upto_region 5 with fail
     go_cut [] (fun wx=>∃(x7:Option Addr × Nat × Nat) (c4:Nat),Hid (CN w #[.int .i64 id, .int .i64 te, .int .i64 vo, .int .i64 lb, .int .i64 lt, .slice x0.1 x0.2.1 x0.2.2, .bool l1, .slice x1.1 x1.2.1 x1.2.2, .slice x2.1 x2.2.1 x2.2.2, .slice x3.1 x3.2.1 x3.2.2, .slice x4.1 x4.2.1 x4.2.2, .slice x5.1 x5.2.1 x5.2.2, .int .i64 ro, .slice x6.1 x6.2.1 x6.2.2, .slice x7.1 x7.2.1 x7.2.2,mv, .int .i64 cm, .bool l2, .slice x9.1 x9.2.1 x9.2.2, .slice x10.1 x10.2.1 x10.2.2, .slice x11.1 x11.2.1 x11.2.2, .slice x12.1 x12.2.1 x12.2.2, .slice x13.1 x13.2.1 x13.2.2] wx)/\Hid (c4<=wx.heap.size)/\Hid (c3<=c4)/\Hid (Ar wx (w.heap.size+2) c1 119 6 (.slice x0.1 x0.2.1 x0.2.2) D.l.length (Af D.l))/\Hid (Bt n wx c1 c2 ⟨⟨l1, .slice x1.1 x1.2.1 x1.2.2, .slice x2.1 x2.2.1 x2.2.2, .slice x3.1 x3.2.1 x3.2.2, .slice x4.1 x4.2.1 x4.2.2⟩, .slice x5.1 x5.2.1 x5.2.2⟩ D.T1 D.d1)/\Hid (Bt n wx c2 c6 ⟨⟨l2, .slice x9.1 x9.2.1 x9.2.2, .slice x10.1 x10.2.1 x10.2.2, .slice x11.1 x11.2.1 x11.2.2, .slice x12.1 x12.2.1 x12.2.2⟩, .slice x13.1 x13.2.1 x13.2.2⟩ D.T2 D.d2)/\Hid (Ar wx c6 c3 4 1 (.slice x6.1 x6.2.1 x6.2.2) D.vs.length (AJ D.vs))/\Hid (Ar wx c3 c4 3 1 (.slice x7.1 x7.2.1 x7.2.2) D.nx.length (Am D.nx)))
     case first=>
      as_aux_lemma=>
       have c0:=fun j=>Aa (j:=j) G.out.2.2.1
       have c9:=fun j=>Aa (j:=j) (Ad G.out.2.2.1 (al1 _ (.cells #[] 3)))
       go_wp2_with (at_builtin;refine BO (wc.alloc (.cells #[] 3)) rfl _ _ 50 rfl wc.heap.size 3 iI _ 1 8 Tryz.underlying50 hiI0 hzI0 hzI1 hzI2 rfl (by decide) (.slice (some ⟨wc.heap.size,0,none⟩) 0 0) 0 [] rfl (Ac.zero _ _ _ _ _) nv D.nx.length (Am D.nx) rfl (L4.out _ (Below.and G.out.1 (al1 _ _))) (by rw[Co];omega) (DZ _) R4.out.1 R4.out.2 (by simp) ?_)
       rintro z w4 ⟨oz,o2,o3,o4⟩
       have bz:Below wc.heap.size wc w4:=Below.trans (al1 _ _) o3
       clear o2 o3 o4 c9;obtain⟨x7,hz⟩:=oz.sl
       subst hz;have Oz:=Aj (Ar.made (oz.mono (base' :=c3) Z0.out))
       have ZN:Hid (c3<=w4.heap.size):=Nat.le_trans Z0.out bz.size
       replace G:=Aj (G.out.step bz)
       replace O1:=Aj (O1.out.below bz)
       replace O2:=Aj (O2.out.below bz)
       replace O6:=Aj (O6.out.below bz)
       replace O3:=Aj (O3.out.below bz)
       clear oz bz c0 Z0;have ff1:∀j,w4.frozen? ⟨w.heap.size,j,none⟩=false:=fun j=>Ab G.out.2.2.1
       have dd0:∀j,w4.cell? ⟨w.heap.size,j,none⟩=(#[.int .i64 id, .int .i64 te, .int .i64 vo, .int .i64 lb, .int .i64 lt, .slice x0.1 x0.2.1 x0.2.2, .bool l1, .slice x1.1 x1.2.1 x1.2.2, .slice x2.1 x2.2.1 x2.2.2, .slice x3.1 x3.2.1 x3.2.2, .slice x4.1 x4.2.1 x4.2.2, .slice x5.1 x5.2.1 x5.2.2, .int .i64 ro, .slice x6.1 x6.2.1 x6.2.2,nv,mv, .int .i64 cm, .bool l2, .slice x9.1 x9.2.1 x9.2.2, .slice x10.1 x10.2.1 x10.2.2, .slice x11.1 x11.2.1 x11.2.2, .slice x12.1 x12.2.1 x12.2.2, .slice x13.1 x13.2.1 x13.2.2]:Array Value)[j]? :=fun j=>Aa G.out.2.2.1
       have GC:=Aj ((Chg.refl (fun g=>g=w.heap.size) w4).setAt (w.heap.size) 14 rfl (.slice x7.1 x7.2.1 x7.2.2))
       have n2:(w4.setCell ⟨w.heap.size,14,none⟩ (.slice x7.1 x7.2.1 x7.2.2)).heap[w.heap.size]? =some (.cells #[.int .i64 id, .int .i64 te, .int .i64 vo, .int .i64 lb, .int .i64 lt, .slice x0.1 x0.2.1 x0.2.2, .bool l1, .slice x1.1 x1.2.1 x1.2.2, .slice x2.1 x2.2.1 x2.2.2, .slice x3.1 x3.2.1 x3.2.2, .slice x4.1 x4.2.1 x4.2.2, .slice x5.1 x5.2.1 x5.2.2, .int .i64 ro, .slice x6.1 x6.2.1 x6.2.2, .slice x7.1 x7.2.1 x7.2.2,mv, .int .i64 cm, .bool l2, .slice x9.1 x9.2.1 x9.2.2, .slice x10.1 x10.2.1 x10.2.2, .slice x11.1 x11.2.1 x11.2.2, .slice x12.1 x12.2.1 x12.2.2, .slice x13.1 x13.2.1 x13.2.2] 73 (0,0)):=by simpa using(Aq 14 (.slice x7.1 x7.2.1 x7.2.2) G.out.2.2.1)
       have G2:=Aj (G.out.sets GC.out n2)
       have ZS:Hid (w4.heap.size<=(w4.setCell ⟨w.heap.size,14,none⟩ (.slice x7.1 x7.2.1 x7.2.2)).heap.size):=by show _<=_;simp
       clear n2;have LT1:w.heap.size<(w.heap.size+2):=by have qc1:=Y1.out;have qc2:=Y2.out;have qc6:=Y6.out;have qc3:=Y3.out;omega
       have LT2:w.heap.size<c1:=by have qc1:=Y1.out;have qc2:=Y2.out;have qc6:=Y6.out;have qc3:=Y3.out;omega
       have LT6:w.heap.size<c2:=by have qc1:=Y1.out;have qc2:=Y2.out;have qc6:=Y6.out;have qc3:=Y3.out;omega
       have LT3:w.heap.size<c6:=by have qc1:=Y1.out;have qc2:=Y2.out;have qc6:=Y6.out;have qc3:=Y3.out;omega
       have LTz:w.heap.size<c3:=by have qc1:=Y1.out;have qc2:=Y2.out;have qc6:=Y6.out;have qc3:=Y3.out;omega
       go_wp2_with fail;go_meet;exact⟨x7,w4.heap.size,G2.out,ZS.out,ZN.out,O1.out.but GC.out (LT1),O2.out.but GC.out (LT2),O6.out.but GC.out (LT6),O3.out.but GC.out (LT3),Oz.out.but GC.out (LTz)⟩
     case rest=>
      clear G Z0 O1 O2 O6 O3;obtain⟨x7,c4,G,Z0,Y4,O1,O2,O6,O3,O4⟩:=hcut
      go_upto_region 6 with fail
      go_cut [] (fun wx=>∃(x8:Option Addr × Nat × Nat) (c5:Nat),Hid (CN w #[.int .i64 id, .int .i64 te, .int .i64 vo, .int .i64 lb, .int .i64 lt, .slice x0.1 x0.2.1 x0.2.2, .bool l1, .slice x1.1 x1.2.1 x1.2.2, .slice x2.1 x2.2.1 x2.2.2, .slice x3.1 x3.2.1 x3.2.2, .slice x4.1 x4.2.1 x4.2.2, .slice x5.1 x5.2.1 x5.2.2, .int .i64 ro, .slice x6.1 x6.2.1 x6.2.2, .slice x7.1 x7.2.1 x7.2.2, .slice x8.1 x8.2.1 x8.2.2, .int .i64 cm, .bool l2, .slice x9.1 x9.2.1 x9.2.2, .slice x10.1 x10.2.1 x10.2.2, .slice x11.1 x11.2.1 x11.2.2, .slice x12.1 x12.2.1 x12.2.2, .slice x13.1 x13.2.1 x13.2.2] wx)/\Hid (c5<=wx.heap.size)/\Hid (c4<=c5)/\Hid (Ar wx (w.heap.size+2) c1 119 6 (.slice x0.1 x0.2.1 x0.2.2) D.l.length (Af D.l))/\Hid (Bt n wx c1 c2 ⟨⟨l1, .slice x1.1 x1.2.1 x1.2.2, .slice x2.1 x2.2.1 x2.2.2, .slice x3.1 x3.2.1 x3.2.2, .slice x4.1 x4.2.1 x4.2.2⟩, .slice x5.1 x5.2.1 x5.2.2⟩ D.T1 D.d1)/\Hid (Bt n wx c2 c6 ⟨⟨l2, .slice x9.1 x9.2.1 x9.2.2, .slice x10.1 x10.2.1 x10.2.2, .slice x11.1 x11.2.1 x11.2.2, .slice x12.1 x12.2.1 x12.2.2⟩, .slice x13.1 x13.2.1 x13.2.2⟩ D.T2 D.d2)/\Hid (Ar wx c6 c3 4 1 (.slice x6.1 x6.2.1 x6.2.2) D.vs.length (AJ D.vs))/\Hid (Ar wx c3 c4 3 1 (.slice x7.1 x7.2.1 x7.2.2) D.nx.length (Am D.nx))/\Hid (Ar wx c4 c5 3 1 (.slice x8.1 x8.2.1 x8.2.2) D.mt.length (Am D.mt)))
      case first=>
       as_aux_lemma=>
        have c0:=fun j=>Aa (j:=j) G.out.2.2.1
        have c9:=fun j=>Aa (j:=j) (Ad G.out.2.2.1 (al1 _ (.cells #[] 3)))
        go_wp2_with (at_builtin;refine BO (wc.alloc (.cells #[] 3)) rfl _ _ 50 rfl wc.heap.size 3 iI _ 1 8 Tryz.underlying50 hiI0 hzI0 hzI1 hzI2 rfl (by decide) (.slice (some ⟨wc.heap.size,0,none⟩) 0 0) 0 [] rfl (Ac.zero _ _ _ _ _) mv D.mt.length (Am D.mt) rfl (L5.out _ (Below.and G.out.1 (al1 _ _))) (by rw[Co];omega) (DZ _) R5.out.1 R5.out.2 (by simp) ?_)
        rintro z w5 ⟨oz,o2,o3,o4⟩
        have bz:Below wc.heap.size wc w5:=Below.trans (al1 _ _) o3
        clear o2 o3 o4 c9;obtain⟨x8,hz⟩:=oz.sl
        subst hz;have Oz:=Aj (Ar.made (oz.mono (base' :=c4) Z0.out))
        have ZN:Hid (c4<=w5.heap.size):=Nat.le_trans Z0.out bz.size
        replace G:=Aj (G.out.step bz)
        replace O1:=Aj (O1.out.below bz)
        replace O2:=Aj (O2.out.below bz)
        replace O6:=Aj (O6.out.below bz)
        replace O3:=Aj (O3.out.below bz)
        replace O4:=Aj (O4.out.below bz)
        clear oz bz c0 Z0;have ff1:∀j,w5.frozen? ⟨w.heap.size,j,none⟩=false:=fun j=>Ab G.out.2.2.1
        have dd0:∀j,w5.cell? ⟨w.heap.size,j,none⟩=(#[.int .i64 id, .int .i64 te, .int .i64 vo, .int .i64 lb, .int .i64 lt, .slice x0.1 x0.2.1 x0.2.2, .bool l1, .slice x1.1 x1.2.1 x1.2.2, .slice x2.1 x2.2.1 x2.2.2, .slice x3.1 x3.2.1 x3.2.2, .slice x4.1 x4.2.1 x4.2.2, .slice x5.1 x5.2.1 x5.2.2, .int .i64 ro, .slice x6.1 x6.2.1 x6.2.2, .slice x7.1 x7.2.1 x7.2.2,mv, .int .i64 cm, .bool l2, .slice x9.1 x9.2.1 x9.2.2, .slice x10.1 x10.2.1 x10.2.2, .slice x11.1 x11.2.1 x11.2.2, .slice x12.1 x12.2.1 x12.2.2, .slice x13.1 x13.2.1 x13.2.2]:Array Value)[j]? :=fun j=>Aa G.out.2.2.1
        have GC:=Aj ((Chg.refl (fun g=>g=w.heap.size) w5).setAt (w.heap.size) 15 rfl (.slice x8.1 x8.2.1 x8.2.2))
        have n2:(w5.setCell ⟨w.heap.size,15,none⟩ (.slice x8.1 x8.2.1 x8.2.2)).heap[w.heap.size]? =some (.cells #[.int .i64 id, .int .i64 te, .int .i64 vo, .int .i64 lb, .int .i64 lt, .slice x0.1 x0.2.1 x0.2.2, .bool l1, .slice x1.1 x1.2.1 x1.2.2, .slice x2.1 x2.2.1 x2.2.2, .slice x3.1 x3.2.1 x3.2.2, .slice x4.1 x4.2.1 x4.2.2, .slice x5.1 x5.2.1 x5.2.2, .int .i64 ro, .slice x6.1 x6.2.1 x6.2.2, .slice x7.1 x7.2.1 x7.2.2, .slice x8.1 x8.2.1 x8.2.2, .int .i64 cm, .bool l2, .slice x9.1 x9.2.1 x9.2.2, .slice x10.1 x10.2.1 x10.2.2, .slice x11.1 x11.2.1 x11.2.2, .slice x12.1 x12.2.1 x12.2.2, .slice x13.1 x13.2.1 x13.2.2] 73 (0,0)):=by simpa using(Aq 15 (.slice x8.1 x8.2.1 x8.2.2) G.out.2.2.1)
        have G2:=Aj (G.out.sets GC.out n2)
        have ZS:Hid (w5.heap.size<=(w5.setCell ⟨w.heap.size,15,none⟩ (.slice x8.1 x8.2.1 x8.2.2)).heap.size):=by show _<=_;simp
        clear n2;have LT1:w.heap.size<(w.heap.size+2):=by have qc1:=Y1.out;have qc2:=Y2.out;have qc6:=Y6.out;have qc3:=Y3.out;have qc4:=Y4.out;omega
        have LT2:w.heap.size<c1:=by have qc1:=Y1.out;have qc2:=Y2.out;have qc6:=Y6.out;have qc3:=Y3.out;have qc4:=Y4.out;omega
        have LT6:w.heap.size<c2:=by have qc1:=Y1.out;have qc2:=Y2.out;have qc6:=Y6.out;have qc3:=Y3.out;have qc4:=Y4.out;omega
        have LT3:w.heap.size<c6:=by have qc1:=Y1.out;have qc2:=Y2.out;have qc6:=Y6.out;have qc3:=Y3.out;have qc4:=Y4.out;omega
        have LT4:w.heap.size<c3:=by have qc1:=Y1.out;have qc2:=Y2.out;have qc6:=Y6.out;have qc3:=Y3.out;have qc4:=Y4.out;omega
        have LTz:w.heap.size<c4:=by have qc1:=Y1.out;have qc2:=Y2.out;have qc6:=Y6.out;have qc3:=Y3.out;have qc4:=Y4.out;omega
        go_wp2_with fail;go_meet;exact⟨x8,w5.heap.size,G2.out,ZS.out,ZN.out,O1.out.but GC.out (LT1),O2.out.but GC.out (LT2),O6.out.but GC.out (LT6),O3.out.but GC.out (LT3),O4.out.but GC.out (LT4),Oz.out.but GC.out (LTz)⟩
      case rest=>
       clear G Z0 O1 O2 O6 O3 O4;obtain⟨x8,c5,G,Z0,Y5,O1,O2,O6,O3,O4,O5⟩:=hcut
       have RG:Hid (wc.rangeAt (w.heap.size) 0 ([.int .i64 id, .int .i64 te, .int .i64 vo, .int .i64 lb, .int .i64 lt, .slice x0.1 x0.2.1 x0.2.2, .bool l1, .slice x1.1 x1.2.1 x1.2.2, .slice x2.1 x2.2.1 x2.2.2, .slice x3.1 x3.2.1 x3.2.2, .slice x4.1 x4.2.1 x4.2.2, .slice x5.1 x5.2.1 x5.2.2, .int .i64 ro, .slice x6.1 x6.2.1 x6.2.2, .slice x7.1 x7.2.1 x7.2.2, .slice x8.1 x8.2.1 x8.2.2, .int .i64 cm, .bool l2, .slice x9.1 x9.2.1 x9.2.2, .slice x10.1 x10.2.1 x10.2.2, .slice x11.1 x11.2.1 x11.2.2, .slice x12.1 x12.2.1 x12.2.2, .slice x13.1 x13.2.1 x13.2.2]:List Value)):=Ao G.out.2.2.1
       have TH:Hid (wc.there (w.heap.size+1) 0 (List.toArray ([.int .i64 id, .int .i64 te, .int .i64 vo, .int .i64 lb, .int .i64 lt, .slice x0.1 x0.2.1 x0.2.2, .bool l1, .slice x1.1 x1.2.1 x1.2.2, .slice x2.1 x2.2.1 x2.2.2, .slice x3.1 x3.2.1 x3.2.2, .slice x4.1 x4.2.1 x4.2.2, .slice x5.1 x5.2.1 x5.2.2, .int .i64 ro, .slice x6.1 x6.2.1 x6.2.2, .slice x7.1 x7.2.1 x7.2.2, .slice x8.1 x8.2.1 x8.2.2, .int .i64 cm, .bool l2, .slice x9.1 x9.2.1 x9.2.2, .slice x10.1 x10.2.1 x10.2.2, .slice x11.1 x11.2.1 x11.2.2, .slice x12.1 x12.2.1 x12.2.2, .slice x13.1 x13.2.1 x13.2.2]:List Value)).size):=Ba G.out.2.2.2 rfl
       have HI:Hid ((Tryz.prog.info? 73).map (·.size)=some (List.length ([.int .i64 id, .int .i64 te, .int .i64 vo, .int .i64 lb, .int .i64 lt, .slice x0.1 x0.2.1 x0.2.2, .bool l1, .slice x1.1 x1.2.1 x1.2.2, .slice x2.1 x2.2.1 x2.2.2, .slice x3.1 x3.2.1 x3.2.2, .slice x4.1 x4.2.1 x4.2.2, .slice x5.1 x5.2.1 x5.2.2, .int .i64 ro, .slice x6.1 x6.2.1 x6.2.2, .slice x7.1 x7.2.1 x7.2.2, .slice x8.1 x8.2.1 x8.2.2, .int .i64 cm, .bool l2, .slice x9.1 x9.2.1 x9.2.2, .slice x10.1 x10.2.1 x10.2.2, .slice x11.1 x11.2.1 x11.2.2, .slice x12.1 x12.2.1 x12.2.2, .slice x13.1 x13.2.1 x13.2.2]:List Value))):=(show(Tryz.prog.info? 73).map (·.size)=some 23 by kernel_rfl)
       have HJ:Hid ((Tryz.prog.info? 73).map (·.size)=some (List.toArray ([.int .i64 id, .int .i64 te, .int .i64 vo, .int .i64 lb, .int .i64 lt, .slice x0.1 x0.2.1 x0.2.2, .bool l1, .slice x1.1 x1.2.1 x1.2.2, .slice x2.1 x2.2.1 x2.2.2, .slice x3.1 x3.2.1 x3.2.2, .slice x4.1 x4.2.1 x4.2.2, .slice x5.1 x5.2.1 x5.2.2, .int .i64 ro, .slice x6.1 x6.2.1 x6.2.2, .slice x7.1 x7.2.1 x7.2.2, .slice x8.1 x8.2.1 x8.2.2, .int .i64 cm, .bool l2, .slice x9.1 x9.2.1 x9.2.2, .slice x10.1 x10.2.1 x10.2.2, .slice x11.1 x11.2.1 x11.2.2, .slice x12.1 x12.2.1 x12.2.2, .slice x13.1 x13.2.1 x13.2.2]:List Value)).size):=(show(Tryz.prog.info? 73).map (·.size)=some 23 by kernel_rfl)
       have ONE:Hid ((List.toArray ([.int .i64 id, .int .i64 te, .int .i64 vo, .int .i64 lb, .int .i64 lt, .slice x0.1 x0.2.1 x0.2.2, .bool l1, .slice x1.1 x1.2.1 x1.2.2, .slice x2.1 x2.2.1 x2.2.2, .slice x3.1 x3.2.1 x3.2.2, .slice x4.1 x4.2.1 x4.2.2, .slice x5.1 x5.2.1 x5.2.2, .int .i64 ro, .slice x6.1 x6.2.1 x6.2.2, .slice x7.1 x7.2.1 x7.2.2, .slice x8.1 x8.2.1 x8.2.2, .int .i64 cm, .bool l2, .slice x9.1 x9.2.1 x9.2.2, .slice x10.1 x10.2.1 x10.2.2, .slice x11.1 x11.2.1 x11.2.2, .slice x12.1 x12.2.1 x12.2.2, .slice x13.1 x13.2.1 x13.2.2]:List Value)).all (·.oneCell')=true):=by show _=_;simp[Value.oneCell']
       have GC:Hid (Chg (fun g=>g=w.heap.size+1) wc (wc.setCells (w.heap.size+1) 0 ([.int .i64 id, .int .i64 te, .int .i64 vo, .int .i64 lb, .int .i64 lt, .slice x0.1 x0.2.1 x0.2.2, .bool l1, .slice x1.1 x1.2.1 x1.2.2, .slice x2.1 x2.2.1 x2.2.2, .slice x3.1 x3.2.1 x3.2.2, .slice x4.1 x4.2.1 x4.2.2, .slice x5.1 x5.2.1 x5.2.2, .int .i64 ro, .slice x6.1 x6.2.1 x6.2.2, .slice x7.1 x7.2.1 x7.2.2, .slice x8.1 x8.2.1 x8.2.2, .int .i64 cm, .bool l2, .slice x9.1 x9.2.1 x9.2.2, .slice x10.1 x10.2.1 x10.2.2, .slice x11.1 x11.2.1 x11.2.2, .slice x12.1 x12.2.1 x12.2.2, .slice x13.1 x13.2.1 x13.2.2]:List Value))):=Chg.setCells (F:=fun g=>g=w.heap.size+1) (g:=w.heap.size+1) (fun _=>rfl) ([.int .i64 id, .int .i64 te, .int .i64 vo, .int .i64 lb, .int .i64 lt, .slice x0.1 x0.2.1 x0.2.2, .bool l1, .slice x1.1 x1.2.1 x1.2.2, .slice x2.1 x2.2.1 x2.2.2, .slice x3.1 x3.2.1 x3.2.2, .slice x4.1 x4.2.1 x4.2.2, .slice x5.1 x5.2.1 x5.2.2, .int .i64 ro, .slice x6.1 x6.2.1 x6.2.2, .slice x7.1 x7.2.1 x7.2.2, .slice x8.1 x8.2.1 x8.2.2, .int .i64 cm, .bool l2, .slice x9.1 x9.2.1 x9.2.2, .slice x10.1 x10.2.1 x10.2.2, .slice x11.1 x11.2.1 x11.2.2, .slice x12.1 x12.2.1 x12.2.2, .slice x13.1 x13.2.1 x13.2.2]:List Value) 0 wc (Chg.refl _ _)
       have X1:Hid ((wc.setCells (w.heap.size+1) 0 ([.int .i64 id, .int .i64 te, .int .i64 vo, .int .i64 lb, .int .i64 lt, .slice x0.1 x0.2.1 x0.2.2, .bool l1, .slice x1.1 x1.2.1 x1.2.2, .slice x2.1 x2.2.1 x2.2.2, .slice x3.1 x3.2.1 x3.2.2, .slice x4.1 x4.2.1 x4.2.2, .slice x5.1 x5.2.1 x5.2.2, .int .i64 ro, .slice x6.1 x6.2.1 x6.2.2, .slice x7.1 x7.2.1 x7.2.2, .slice x8.1 x8.2.1 x8.2.2, .int .i64 cm, .bool l2, .slice x9.1 x9.2.1 x9.2.2, .slice x10.1 x10.2.1 x10.2.2, .slice x11.1 x11.2.1 x11.2.2, .slice x12.1 x12.2.1 x12.2.2, .slice x13.1 x13.2.1 x13.2.2]:List Value)).heap[w.heap.size+1]? =some (.cells (List.toArray ([.int .i64 id, .int .i64 te, .int .i64 vo, .int .i64 lb, .int .i64 lt, .slice x0.1 x0.2.1 x0.2.2, .bool l1, .slice x1.1 x1.2.1 x1.2.2, .slice x2.1 x2.2.1 x2.2.2, .slice x3.1 x3.2.1 x3.2.2, .slice x4.1 x4.2.1 x4.2.2, .slice x5.1 x5.2.1 x5.2.2, .int .i64 ro, .slice x6.1 x6.2.1 x6.2.2, .slice x7.1 x7.2.1 x7.2.2, .slice x8.1 x8.2.1 x8.2.2, .int .i64 cm, .bool l2, .slice x9.1 x9.2.1 x9.2.2, .slice x10.1 x10.2.1 x10.2.2, .slice x11.1 x11.2.1 x11.2.2, .slice x12.1 x12.2.1 x12.2.2, .slice x13.1 x13.2.1 x13.2.2]:List Value)) 73 (0,0))):=A7 G.out.2.2.2 ([.int .i64 id, .int .i64 te, .int .i64 vo, .int .i64 lb, .int .i64 lt, .slice x0.1 x0.2.1 x0.2.2, .bool l1, .slice x1.1 x1.2.1 x1.2.2, .slice x2.1 x2.2.1 x2.2.2, .slice x3.1 x3.2.1 x3.2.2, .slice x4.1 x4.2.1 x4.2.2, .slice x5.1 x5.2.1 x5.2.2, .int .i64 ro, .slice x6.1 x6.2.1 x6.2.2, .slice x7.1 x7.2.1 x7.2.2, .slice x8.1 x8.2.1 x8.2.2, .int .i64 cm, .bool l2, .slice x9.1 x9.2.1 x9.2.2, .slice x10.1 x10.2.1 x10.2.2, .slice x11.1 x11.2.1 x11.2.2, .slice x12.1 x12.2.1 x12.2.2, .slice x13.1 x13.2.1 x13.2.2]:List Value) rfl
       have B2:=Aj (G.out.1.trans (GC.out.below (fun g _ hg=>by omega) G.out.1.size))
       have MV:Hid (Value.agg (List.toArray ([.int .i64 id, .int .i64 te, .int .i64 vo, .int .i64 lb, .int .i64 lt, .slice x0.1 x0.2.1 x0.2.2, .bool l1, .slice x1.1 x1.2.1 x1.2.2, .slice x2.1 x2.2.1 x2.2.2, .slice x3.1 x3.2.1 x3.2.2, .slice x4.1 x4.2.1 x4.2.2, .slice x5.1 x5.2.1 x5.2.2, .int .i64 ro, .slice x6.1 x6.2.1 x6.2.2, .slice x7.1 x7.2.1 x7.2.2, .slice x8.1 x8.2.1 x8.2.2, .int .i64 cm, .bool l2, .slice x9.1 x9.2.1 x9.2.2, .slice x10.1 x10.2.1 x10.2.2, .slice x11.1 x11.2.1 x11.2.2, .slice x12.1 x12.2.1 x12.2.2, .slice x13.1 x13.2.1 x13.2.2]:List Value))=AL.val ⟨id,te,vo,lb,lt, .slice x0.1 x0.2.1 x0.2.2,⟨⟨l1, .slice x1.1 x1.2.1 x1.2.2, .slice x2.1 x2.2.1 x2.2.2, .slice x3.1 x3.2.1 x3.2.2, .slice x4.1 x4.2.1 x4.2.2⟩, .slice x5.1 x5.2.1 x5.2.2⟩,ro, .slice x6.1 x6.2.1 x6.2.2, .slice x7.1 x7.2.1 x7.2.2, .slice x8.1 x8.2.1 x8.2.2,cm,⟨⟨l2, .slice x9.1 x9.2.1 x9.2.2, .slice x10.1 x10.2.1 x10.2.2, .slice x11.1 x11.2.1 x11.2.2, .slice x12.1 x12.2.1 x12.2.2⟩, .slice x13.1 x13.2.1 x13.2.2⟩⟩):=by show _=_;rfl
       have SZ:Hid (c5<=(wc.setCells (w.heap.size+1) 0 ([.int .i64 id, .int .i64 te, .int .i64 vo, .int .i64 lb, .int .i64 lt, .slice x0.1 x0.2.1 x0.2.2, .bool l1, .slice x1.1 x1.2.1 x1.2.2, .slice x2.1 x2.2.1 x2.2.2, .slice x3.1 x3.2.1 x3.2.2, .slice x4.1 x4.2.1 x4.2.2, .slice x5.1 x5.2.1 x5.2.2, .int .i64 ro, .slice x6.1 x6.2.1 x6.2.2, .slice x7.1 x7.2.1 x7.2.2, .slice x8.1 x8.2.1 x8.2.2, .int .i64 cm, .bool l2, .slice x9.1 x9.2.1 x9.2.2, .slice x10.1 x10.2.1 x10.2.2, .slice x11.1 x11.2.1 x11.2.2, .slice x12.1 x12.2.1 x12.2.2, .slice x13.1 x13.2.1 x13.2.2]:List Value)).heap.size):=by show _<=_;rw[Dr];exact Z0.out
       have q0:w.heap.size+1<(w.heap.size+2):=by omega
       have q1:=Y1.out
       have q2:=Y2.out
       have q3:=Y3.out
       have q4:=Y4.out
       have q5:=Y5.out
       have q6:=Y6.out
       have ND:Hid (Ll n (wc.setCells (w.heap.size+1) 0 ([.int .i64 id, .int .i64 te, .int .i64 vo, .int .i64 lb, .int .i64 lt, .slice x0.1 x0.2.1 x0.2.2, .bool l1, .slice x1.1 x1.2.1 x1.2.2, .slice x2.1 x2.2.1 x2.2.2, .slice x3.1 x3.2.1 x3.2.2, .slice x4.1 x4.2.1 x4.2.2, .slice x5.1 x5.2.1 x5.2.2, .int .i64 ro, .slice x6.1 x6.2.1 x6.2.2, .slice x7.1 x7.2.1 x7.2.2, .slice x8.1 x8.2.1 x8.2.2, .int .i64 cm, .bool l2, .slice x9.1 x9.2.1 x9.2.2, .slice x10.1 x10.2.1 x10.2.2, .slice x11.1 x11.2.1 x11.2.2, .slice x12.1 x12.2.1 x12.2.2, .slice x13.1 x13.2.1 x13.2.2]:List Value)) w.heap.size ⟨id,te,vo,lb,lt, .slice x0.1 x0.2.1 x0.2.2,⟨⟨l1, .slice x1.1 x1.2.1 x1.2.2, .slice x2.1 x2.2.1 x2.2.2, .slice x3.1 x3.2.1 x3.2.2, .slice x4.1 x4.2.1 x4.2.2⟩, .slice x5.1 x5.2.1 x5.2.2⟩,ro, .slice x6.1 x6.2.1 x6.2.2, .slice x7.1 x7.2.1 x7.2.2, .slice x8.1 x8.2.1 x8.2.2,cm,⟨⟨l2, .slice x9.1 x9.2.1 x9.2.2, .slice x10.1 x10.2.1 x10.2.2, .slice x11.1 x11.2.1 x11.2.2, .slice x12.1 x12.2.1 x12.2.2⟩, .slice x13.1 x13.2.1 x13.2.2⟩⟩ D):=⟨(O1.out.but GC.out (by omega)).1.mono (by omega),AQ.mono (O2.out.but GC.out (by omega)) (fun g h=>by have:=h.1;omega),(O3.out.but GC.out (by omega)).1.mono (by omega),(O4.out.but GC.out (by omega)).1.mono (by omega),(O5.out.but GC.out (by omega)).1.mono (by omega),AQ.mono (O6.out.but GC.out (by omega)) (fun g h=>by have:=h.1;omega)⟩
       have FIN:Hid (∃M:AL,Value.agg (List.toArray ([.int .i64 id, .int .i64 te, .int .i64 vo, .int .i64 lb, .int .i64 lt, .slice x0.1 x0.2.1 x0.2.2, .bool l1, .slice x1.1 x1.2.1 x1.2.2, .slice x2.1 x2.2.1 x2.2.2, .slice x3.1 x3.2.1 x3.2.2, .slice x4.1 x4.2.1 x4.2.2, .slice x5.1 x5.2.1 x5.2.2, .int .i64 ro, .slice x6.1 x6.2.1 x6.2.2, .slice x7.1 x7.2.1 x7.2.2, .slice x8.1 x8.2.1 x8.2.2, .int .i64 cm, .bool l2, .slice x9.1 x9.2.1 x9.2.2, .slice x10.1 x10.2.1 x10.2.2, .slice x11.1 x11.2.1 x11.2.2, .slice x12.1 x12.2.1 x12.2.2, .slice x13.1 x13.2.1 x13.2.2]:List Value))=M.val/\AL.like ⟨id,te,vo,lb,lt,lv,⟨⟨sl,sp,sc,sk,sb⟩,sv⟩,ro,vv,nv,mv,cm,⟨⟨ol,op,oc,ok,ob⟩,ov⟩⟩ M/\Ll n (wc.setCells (w.heap.size+1) 0 ([.int .i64 id, .int .i64 te, .int .i64 vo, .int .i64 lb, .int .i64 lt, .slice x0.1 x0.2.1 x0.2.2, .bool l1, .slice x1.1 x1.2.1 x1.2.2, .slice x2.1 x2.2.1 x2.2.2, .slice x3.1 x3.2.1 x3.2.2, .slice x4.1 x4.2.1 x4.2.2, .slice x5.1 x5.2.1 x5.2.2, .int .i64 ro, .slice x6.1 x6.2.1 x6.2.2, .slice x7.1 x7.2.1 x7.2.2, .slice x8.1 x8.2.1 x8.2.2, .int .i64 cm, .bool l2, .slice x9.1 x9.2.1 x9.2.2, .slice x10.1 x10.2.1 x10.2.2, .slice x11.1 x11.2.1 x11.2.2, .slice x12.1 x12.2.1 x12.2.2, .slice x13.1 x13.2.1 x13.2.2]:List Value)) w.heap.size M D/\Below w.heap.size w (wc.setCells (w.heap.size+1) 0 ([.int .i64 id, .int .i64 te, .int .i64 vo, .int .i64 lb, .int .i64 lt, .slice x0.1 x0.2.1 x0.2.2, .bool l1, .slice x1.1 x1.2.1 x1.2.2, .slice x2.1 x2.2.1 x2.2.2, .slice x3.1 x3.2.1 x3.2.2, .slice x4.1 x4.2.1 x4.2.2, .slice x5.1 x5.2.1 x5.2.2, .int .i64 ro, .slice x6.1 x6.2.1 x6.2.2, .slice x7.1 x7.2.1 x7.2.2, .slice x8.1 x8.2.1 x8.2.2, .int .i64 cm, .bool l2, .slice x9.1 x9.2.1 x9.2.2, .slice x10.1 x10.2.1 x10.2.2, .slice x11.1 x11.2.1 x11.2.2, .slice x12.1 x12.2.1 x12.2.2, .slice x13.1 x13.2.1 x13.2.2]:List Value))):=⟨_,MV.out,⟨rfl,rfl,rfl,rfl,rfl,rfl,rfl⟩,ND.out,B2.out⟩
       clear GC G B2 MV O1 O2 O3 O4 O5 O6 ND SZ q0 q1 q2 q3 q4 q5 q6 Y1 Y2 Y3 Y4 Y5 Y6 Z0;generalize ([.int .i64 id, .int .i64 te, .int .i64 vo, .int .i64 lb, .int .i64 lt, .slice x0.1 x0.2.1 x0.2.2, .bool l1, .slice x1.1 x1.2.1 x1.2.2, .slice x2.1 x2.2.1 x2.2.2, .slice x3.1 x3.2.1 x3.2.2, .slice x4.1 x4.2.1 x4.2.2, .slice x5.1 x5.2.1 x5.2.2, .int .i64 ro, .slice x6.1 x6.2.1 x6.2.2, .slice x7.1 x7.2.1 x7.2.2, .slice x8.1 x8.2.1 x8.2.2, .int .i64 cm, .bool l2, .slice x9.1 x9.2.1 x9.2.2, .slice x10.1 x10.2.1 x10.2.2, .slice x11.1 x11.2.1 x11.2.2, .slice x12.1 x12.2.1 x12.2.2, .slice x13.1 x13.2.1 x13.2.2]:List Value)=cs at *
       go_wp2_with (first|(refine wpList_load_mid rfl 73 _ rfl (w.heap.size) 0 rfl cs _ RG.out Tryz.underlying73 rfl HI.out ?_)|(refine wpList_store_mid rfl 73 _ _ rfl (w.heap.size+1) 0 cs.toArray rfl rfl TH.out HJ.out ONE.out ?_))
       generalize wc.setCells (w.heap.size+1) 0 cs=WF at *
       exact⟨rfl,_,results_cell_row Tryz.results60 _ WF (w.heap.size+1) 73 cs.toArray (0,0) _ rfl X1.out Tryz.underlying73 rfl HJ.out,(by obtain⟨M,e,r⟩:=FIN.out;exact⟨M,by rw[e],r⟩)⟩
end
end Go.Proofs.YtkcaelfkcepdkaaGreat
