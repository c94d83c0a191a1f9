/-
  The laws' measures of a node and of what is told, with all that they take.
  toMachine: a machine copied out of the law's own kind.
  toMachine: a machine copied out of the law's own kind owns its memory.
  toNode: a node copied out of the law's own kind owns its memory.
  toRpc: what is told, copied out of the law's own kind, owns its memory.
  Lists of structs that hold lists of their own: the elements of a world.
  Lists of structs: the laws' measures.
-/
import Derived.Test.YtkcaelfkcepdkaaGreatOfNote5
import Derived.Test.YtkcaelfkcepdkaaGreatOfNote3
import Derived.Test.YtkcaelfkcepdkaaGreatOfNote1
import Derived.Deep.DeepCutAuto
import Derived.Deep.MidRow
import Derived.Laws.Rows
namespace Go.Proofs.YtkcaelfkcepdkaaGreat
set_option maxRecDepth 100000
set_option maxHeartbeats 8000000
section
open Go.RowKit

def Tk2 (m:Nat) (left r:Int):Prop:=r= -1∨(0<=r/\r+m<=left)
theorem Hq {m:Nat} {left:Int} (_h:0<=left):Tk2 m left (if (m:Int)<=left then left-m else -1):=by
 unfold Tk2;split
 ·right;omega
 ·left;rfl
theorem GE {m:Nat} {left:Int} (h:0<=left):Tk2 m left (Cp left m):=Hq h
def Nd.all (n:Nat) (D:Nd):Nat:=D.l.length+(Az n D.T1+D.d1.length)+D.vs.length+D.nx.length+D.mt.length+(Az n D.T2+D.d2.length)
def Rd.all (n:Nat) (D:Rd):Nat:=D.l.length+(Az n D.T+D.d.length)
theorem Nd.small_all {n:Nat} {D:Nd} (h:Nd.all n D<=1048576):D.small n:=by
 unfold Nd.all at h
 exact⟨by omega,by omega,by omega,by omega,by omega,by omega,by omega,by omega⟩
theorem Rd.small_all {n:Nat} {D:Rd} (h:Rd.all n D<=1048576):D.small n:=by
 unfold Rd.all at h
 exact⟨by omega,by omega,by omega⟩

theorem Mt (n:Nat) (N:AL) (D:Nd) (left:Int) (w:World) (h:Bq n w N D) (h0:0<=left) (h1:left<=1048576) :
  Calls Tryz.prog 16 #[N.val, .int .i64 left] w fun e w' =>∃r:Int,e= .returned (.int .i64 r)/\r<=1048576/\(¬r<0->r+((Nd.all n D:Nat):Int)<=left)/\Below w.heap.size w w' :=by
 obtain⟨id,te,vo,lb,lt,lv,⟨⟨sl,sp,sc,sk,sb⟩,sv⟩,ro,vv,nv,mv,cm,⟨⟨ol,op,oc,ok,ob⟩,ov⟩⟩:=N
 obtain⟨q1,q2,q3,q4,q5,q6⟩:=h
 obtain⟨av,cv,hvv,hlv⟩:=q3.len
 obtain⟨an,cn,hnv,hln⟩:=q4.len
 obtain⟨am,cq,hmv,hlm⟩:=q5.len
 simp only at hvv hnv hmv
 subst hvv hnv hmv;have S1:Hid (∀u (L:Int),Below w.heap.size w u->0<=L->L<=1048576->Calls Tryz.prog 55 #[lgV lb lt lv, .int .i64 L] u fun e w' =>∃r:Int,e= .returned (.int .i64 r)/\Tk2 D.l.length L r/\Below u.heap.size u w'):=fun u L hu a b=>(PD lb lt lv D.l L u (q1.below hu) a b).mono (fun e w' ⟨he,hb⟩=>⟨_,he,Hq a,hb⟩)
 have S2:Hid (∀u (L:Int),Below w.heap.size w u->0<=L->L<=1048576->Calls Tryz.prog 56 #[.agg #[.bool sl,sp,sc,sk,sb,sv], .int .i64 L] u fun e w' =>∃r:Int,e= .returned (.int .i64 r)/\Tk2 (Az n D.T1+D.d1.length) L r/\Below u.heap.size u w'):=fun u L hu a b=>(Eo n ⟨⟨sl,sp,sc,sk,sb⟩,sv⟩ D.T1 D.d1 L u (q2.below hu) a b).mono (fun e w' ⟨he,hb⟩=>⟨_,he,GE a,hb⟩)
 have S3:Hid (∀u (L:Int),0<=L->L<=1048576->Calls Tryz.prog 57 #[.slice av D.vs.length cv, .int .i64 L] u fun e w' =>∃r:Int,e= .returned (.int .i64 r)/\Tk2 D.vs.length L r/\w' =u):=fun u L a b=>(Mm av _ cv L hlv a b u).mono (fun e w' ⟨he,hb⟩=>⟨_,he,Hq a,hb⟩)
 have S4:Hid (∀u (L:Int),0<=L->L<=1048576->Calls Tryz.prog 58 #[.slice an D.nx.length cn, .int .i64 L] u fun e w' =>∃r:Int,e= .returned (.int .i64 r)/\Tk2 D.nx.length L r/\w' =u):=fun u L a b=>(Eb an _ cn L hln a b u).mono (fun e w' ⟨he,hb⟩=>⟨_,he,Hq a,hb⟩)
 have S5:Hid (∀u (L:Int),0<=L->L<=1048576->Calls Tryz.prog 58 #[.slice am D.mt.length cq, .int .i64 L] u fun e w' =>∃r:Int,e= .returned (.int .i64 r)/\Tk2 D.mt.length L r/\w' =u):=fun u L a b=>(Eb am _ cq L hlm a b u).mono (fun e w' ⟨he,hb⟩=>⟨_,he,Hq a,hb⟩)
 have S6:Hid (∀u (L:Int),Below w.heap.size w u->0<=L->L<=1048576->Calls Tryz.prog 56 #[.agg #[.bool ol,op,oc,ok,ob,ov], .int .i64 L] u fun e w' =>∃r:Int,e= .returned (.int .i64 r)/\Tk2 (Az n D.T2+D.d2.length) L r/\Below u.heap.size u w'):=fun u L hu a b=>(Eo n ⟨⟨ol,op,oc,ok,ob⟩,ov⟩ D.T2 D.d2 L u (q6.below hu) a b).mono (fun e w' ⟨he,hb⟩=>⟨_,he,GE a,hb⟩)
 have FIN:Hid (∀r1 r2 r3 r4 r5 r6:Int,Tk2 D.l.length left r1->0<=r1->Tk2 (Az n D.T1+D.d1.length) r1 r2->0<=r2->Tk2 D.vs.length r2 r3->0<=r3->Tk2 D.nx.length r3 r4->0<=r4->Tk2 D.mt.length r4 r5->0<=r5->Tk2 (Az n D.T2+D.d2.length) r5 r6->0<=r6->r6+((Nd.all n D:Nat):Int)<=left):=fun r1 r2 r3 r4 r5 r6 t1 k1 t2 k2 t3 k3 t4 k4 t5 k5 t6 k6=>by
  unfold Tk2 at t1 t2 t3 t4 t5 t6;unfold Nd.all
  omega
 generalize Nd.all n D=SM at *
 generalize D.l.length=n1 at *
 generalize Az n D.T1+D.d1.length=n2 at *
 generalize D.vs.length=nB at *
 generalize D.nx.length=nN at *
 generalize D.mt.length=nM at *
 generalize Az n D.T2+D.d2.length=n6 at *
 clear q1 q2 q3 q4 q5 q6 hlv hln hlm;have N1:Hid (Ai 59 (w.alloc (.cells #[.int .i64 id, .int .i64 te, .int .i64 vo, .int .i64 lb, .int .i64 lt,lv, .bool sl,sp,sc,sk,sb,sv, .int .i64 ro, .slice av nB cv, .slice an nN cn, .slice am nM cq, .int .i64 cm, .bool ol,op,oc,ok,ob,ov] 59)) w.heap.size #[.int .i64 id, .int .i64 te, .int .i64 vo, .int .i64 lb, .int .i64 lt,lv, .bool sl,sp,sc,sk,sb,sv, .int .i64 ro, .slice av nB cv, .slice an nN cn, .slice am nM cq, .int .i64 cm, .bool ol,op,oc,ok,ob,ov]):=Ai.start _ w _
 have B1:Hid (Below w.heap.size w (w.alloc (.cells #[.int .i64 id, .int .i64 te, .int .i64 vo, .int .i64 lb, .int .i64 lt,lv, .bool sl,sp,sc,sk,sb,sv, .int .i64 ro, .slice av nB cv, .slice an nN cn, .slice am nM cq, .int .i64 cm, .bool ol,op,oc,ok,ob,ov] 59))):=Ae _ _
 have c1:=N1.out.cells
 show Calls Tryz.prog 16 #[.agg #[.int .i64 id, .int .i64 te, .int .i64 vo, .int .i64 lb, .int .i64 lt,lv, .bool sl,sp,sc,sk,sb,sv, .int .i64 ro, .slice av nB cv, .slice an nN cn, .slice am nM cq, .int .i64 cm, .bool ol,op,oc,ok,ob,ov], .int .i64 left] w _
 go_enter Tryz.func16,Tryz.ntmps16
 go_wp2_with fail;generalize w.alloc (.cells #[.int .i64 id, .int .i64 te, .int .i64 vo, .int .i64 lb, .int .i64 lt,lv, .bool sl,sp,sc,sk,sb,sv, .int .i64 ro, .slice av nB cv, .slice an nN cn, .slice am nM cq, .int .i64 cm, .bool ol,op,oc,ok,ob,ov] 59)=W at *
 refine(S1.out _ left B1.out (by omega) (by omega)).mono ?_
 rintro e w1 ⟨r1,rfl,t1,b1⟩
 replace B1:Hid (Below w.heap.size w w1):=Below.and B1.out b1
 replace N1:Hid (Ai 59 w1 w.heap.size #[.int .i64 id, .int .i64 te, .int .i64 vo, .int .i64 lb, .int .i64 lt,lv, .bool sl,sp,sc,sk,sb,sv, .int .i64 ro, .slice av nB cv, .slice an nN cn, .slice am nM cq, .int .i64 cm, .bool ol,op,oc,ok,ob,ov]):=N1.out.step b1
 clear b1 c1;have c1:=N1.out.cells
 have T1:Hid _:=t1
 have u1:r1<=1048576:=by unfold Tk2 at t1;omega
 clear t1;by_cases p1:r1<0
 ·go_wp2;go_ret;exact⟨_,rfl,by omega,fun h=>by omega,B1.out⟩
 go_wp2_with fail;refine(S2.out _ r1 B1.out (by omega) (by omega)).mono ?_
 rintro e w2 ⟨r2,rfl,t2,b2⟩
 replace B1:Hid (Below w.heap.size w w2):=Below.and B1.out b2
 replace N1:Hid (Ai 59 w2 w.heap.size #[.int .i64 id, .int .i64 te, .int .i64 vo, .int .i64 lb, .int .i64 lt,lv, .bool sl,sp,sc,sk,sb,sv, .int .i64 ro, .slice av nB cv, .slice an nN cn, .slice am nM cq, .int .i64 cm, .bool ol,op,oc,ok,ob,ov]):=N1.out.step b2
 clear b2 c1;have c1:=N1.out.cells
 have T2:Hid _:=t2
 have u2:r2<=1048576:=by unfold Tk2 at t2;omega
 clear t2;by_cases p2:r2<0
 ·go_wp2;go_ret;exact⟨_,rfl,by omega,fun h=>by omega,B1.out⟩
 go_wp2_with fail;refine(S3.out _ r2 (by omega) (by omega)).mono ?_
 rintro e w3 ⟨r3,rfl,t3,b3⟩
 subst b3;have T3:Hid _:=t3
 have u3:r3<=1048576:=by unfold Tk2 at t3;omega
 clear t3;by_cases p3:r3<0
 ·go_wp2;go_ret;exact⟨_,rfl,by omega,fun h=>by omega,B1.out⟩
 go_wp2_with fail;refine(S4.out _ r3 (by omega) (by omega)).mono ?_
 rintro e w4 ⟨r4,rfl,t4,b4⟩
 subst b4;have T4:Hid _:=t4
 have u4:r4<=1048576:=by unfold Tk2 at t4;omega
 clear t4;by_cases p4:r4<0
 ·go_wp2;go_ret;exact⟨_,rfl,by omega,fun h=>by omega,B1.out⟩
 go_wp2_with fail;refine(S5.out _ r4 (by omega) (by omega)).mono ?_
 rintro e w5 ⟨r5,rfl,t5,b5⟩
 subst b5;have T5:Hid _:=t5
 have u5:r5<=1048576:=by unfold Tk2 at t5;omega
 clear t5;by_cases p5:r5<0
 ·go_wp2;go_ret;exact⟨_,rfl,by omega,fun h=>by omega,B1.out⟩
 go_wp2_with fail;refine(S6.out _ r5 B1.out (by omega) (by omega)).mono ?_
 rintro e w6 ⟨r6,rfl,t6,b6⟩
 replace B1:Hid (Below w.heap.size w w6):=Below.and B1.out b6
 replace N1:Hid (Ai 59 w6 w.heap.size #[.int .i64 id, .int .i64 te, .int .i64 vo, .int .i64 lb, .int .i64 lt,lv, .bool sl,sp,sc,sk,sb,sv, .int .i64 ro, .slice av nB cv, .slice an nN cn, .slice am nM cq, .int .i64 cm, .bool ol,op,oc,ok,ob,ov]):=N1.out.step b6
 clear b6 c1;have c1:=N1.out.cells
 have T6:Hid _:=t6
 have u6:r6<=1048576:=by unfold Tk2 at t6;omega
 clear t6;by_cases p6:r6<0
 ·go_wp2;go_ret;exact⟨_,rfl,by omega,fun h=>by omega,B1.out⟩
 go_wp2;go_ret;exact⟨_,rfl,by omega,fun _=>FIN.out r1 r2 r3 r4 r5 r6 T1.out (by omega) T2.out (by omega) T3.out (by omega) T4.out (by omega) T5.out (by omega) T6.out (by omega),B1.out⟩

theorem RV (n:Nat) (R:BP) (D:Rd) (left:Int) (w:World) (h:Cu n w R D) (h0:0<=left) (h1:left<=1048576) :
  Calls Tryz.prog 26 #[R.val, .int .i64 left] w fun e w' =>∃r:Int,e= .returned (.int .i64 r)/\r<=1048576/\(¬r<0->r+((Rd.all n D:Nat):Int)<=left)/\Below w.heap.size w w' :=by
 obtain⟨kd,fr,tt,te,ix,it,cm,ok,ev,⟨⟨sl,sp,sc,sk,sb⟩,sv⟩⟩:=R
 obtain⟨q1,q2⟩:=h
 obtain⟨av,cv,hvv,hlv⟩:=q1.len
 simp only at hvv
 subst hvv;have S1:Hid (∀u (L:Int),0<=L->L<=1048576->Calls Tryz.prog 74 #[.slice av D.l.length cv, .int .i64 L] u fun e w' =>∃r:Int,e= .returned (.int .i64 r)/\Tk2 D.l.length L r/\w' =u):=fun u L a b=>(Fe av _ cv L hlv a b u).mono (fun e w' ⟨he,hb⟩=>⟨_,he,Hq a,hb⟩)
 have S2:Hid (∀u (L:Int),Below w.heap.size w u->0<=L->L<=1048576->Calls Tryz.prog 56 #[.agg #[.bool sl,sp,sc,sk,sb,sv], .int .i64 L] u fun e w' =>∃r:Int,e= .returned (.int .i64 r)/\Tk2 (Az n D.T+D.d.length) L r/\Below u.heap.size u w'):=fun u L hu a b=>(Eo n ⟨⟨sl,sp,sc,sk,sb⟩,sv⟩ D.T D.d L u (q2.below hu) a b).mono (fun e w' ⟨he,hb⟩=>⟨_,he,GE a,hb⟩)
 have FIN:Hid (∀r1 r2:Int,Tk2 D.l.length left r1->0<=r1->Tk2 (Az n D.T+D.d.length) r1 r2->0<=r2->r2+((Rd.all n D:Nat):Int)<=left):=fun r1 r2 t1 k1 t2 k2=>by
  unfold Tk2 at t1 t2;unfold Rd.all
  omega
 generalize Rd.all n D=SM at *
 generalize D.l.length=nE at *
 generalize Az n D.T+D.d.length=n2 at *
 clear q1 q2 hlv;have N1:Hid (Ai 84 (w.alloc (.cells #[.int .i64 kd, .int .i64 fr, .int .i64 tt, .int .i64 te, .int .i64 ix, .int .i64 it, .int .i64 cm, .bool ok, .slice av nE cv, .bool sl,sp,sc,sk,sb,sv] 84)) w.heap.size #[.int .i64 kd, .int .i64 fr, .int .i64 tt, .int .i64 te, .int .i64 ix, .int .i64 it, .int .i64 cm, .bool ok, .slice av nE cv, .bool sl,sp,sc,sk,sb,sv]):=Ai.start _ w _
 have B1:Hid (Below w.heap.size w (w.alloc (.cells #[.int .i64 kd, .int .i64 fr, .int .i64 tt, .int .i64 te, .int .i64 ix, .int .i64 it, .int .i64 cm, .bool ok, .slice av nE cv, .bool sl,sp,sc,sk,sb,sv] 84))):=Ae _ _
 have c1:=N1.out.cells
 show Calls Tryz.prog 26 #[.agg #[.int .i64 kd, .int .i64 fr, .int .i64 tt, .int .i64 te, .int .i64 ix, .int .i64 it, .int .i64 cm, .bool ok, .slice av nE cv, .bool sl,sp,sc,sk,sb,sv], .int .i64 left] w _
 go_enter Tryz.func26,Tryz.ntmps26
 go_wp2_with fail;generalize w.alloc (.cells #[.int .i64 kd, .int .i64 fr, .int .i64 tt, .int .i64 te, .int .i64 ix, .int .i64 it, .int .i64 cm, .bool ok, .slice av nE cv, .bool sl,sp,sc,sk,sb,sv] 84)=W at *
 refine(S1.out _ left (by omega) (by omega)).mono ?_
 rintro e w1 ⟨r1,rfl,t1,b1⟩
 subst b1;have T1:Hid _:=t1
 have u1:r1<=1048576:=by unfold Tk2 at t1;omega
 clear t1;by_cases p1:r1<0
 ·go_wp2;go_ret;exact⟨_,rfl,by omega,fun h=>by omega,B1.out⟩
 go_wp2_with fail;refine(S2.out _ r1 B1.out (by omega) (by omega)).mono ?_
 rintro e w2 ⟨r2,rfl,t2,b2⟩
 replace B1:Hid (Below w.heap.size w w2):=Below.and B1.out b2
 clear b2 c1;have T2:Hid _:=t2
 have u2:r2<=1048576:=by unfold Tk2 at t2;omega
 clear t2;by_cases p2:r2<0
 ·go_wp2;go_ret;exact⟨_,rfl,by omega,fun h=>by omega,B1.out⟩
 go_wp2;go_ret;exact⟨_,rfl,by omega,fun _=>FIN.out r1 r2 T1.out (by omega) T2.out (by omega),B1.out⟩
end
section
open Go.RowKit

theorem Sr {W:World} {R:Nat} {t:TypeId} {x0 x1 x2 x3 x4 x5:Value} (a b c d e f:Value) (h:W.heap[R]? =some (.cells #[x0,x1,x2,x3,x4,x5] t (0,0))):((((((W.setCell ⟨R,0,none⟩ a).setCell ⟨R,1,none⟩ b).setCell ⟨R,2,none⟩ c).setCell ⟨R,3,none⟩ d).setCell ⟨R,4,none⟩ e).setCell ⟨R,5,none⟩ f).heap[R]? =some (.cells #[a,b,c,d,e,f] t (0,0)):=by
 have h0:=heap_setCell_same W R 0 _ _ a h
 have h1:=heap_setCell_same _ R 1 _ _ b h0
 have h2:=heap_setCell_same _ R 2 _ _ c h1
 have h3:=heap_setCell_same _ R 3 _ _ d h2
 have h4:=heap_setCell_same _ R 4 _ _ e h3
 have h5:=heap_setCell_same _ R 5 _ _ f h4
 simpa using h5
theorem Sc (W:World) (R:Nat) (a b c d e f:Value):Chg (fun g=>g=R) W ((((((W.setCell ⟨R,0,none⟩ a).setCell ⟨R,1,none⟩ b).setCell ⟨R,2,none⟩ c).setCell ⟨R,3,none⟩ d).setCell ⟨R,4,none⟩ e).setCell ⟨R,5,none⟩ f):=
 ((((((Chg.refl (fun g=>g=R) W).setAt R 0 rfl a).setAt R 1 rfl b).setAt R 2 rfl c).setAt R 3 rfl d).setAt R 4 rfl e).setAt R 5 rfl f
theorem Sv {W:World} {R:Nat} {t:TypeId} {x0 x1 x2 x3 x4 x5:Value} (a b c d e:Value) (h:W.heap[R]? =some (.cells #[x0,x1,x2,x3,x4,x5] t (0,0))):(((((W.setCell ⟨R,0,none⟩ a).setCell ⟨R,1,none⟩ b).setCell ⟨R,2,none⟩ c).setCell ⟨R,3,none⟩ d).setCell ⟨R,4,none⟩ e).heap[R]? =some (.cells #[a,b,c,d,e,x5] t (0,0)):=by
 have h0:=heap_setCell_same W R 0 _ _ a h
 have h1:=heap_setCell_same _ R 1 _ _ b h0
 have h2:=heap_setCell_same _ R 2 _ _ c h1
 have h3:=heap_setCell_same _ R 3 _ _ d h2
 have h4:=heap_setCell_same _ R 4 _ _ e h3
 simpa using h4
theorem Rk (W:World) (R:Nat) (a b c d e:Value):Chg (fun g=>g=R) W (((((W.setCell ⟨R,0,none⟩ a).setCell ⟨R,1,none⟩ b).setCell ⟨R,2,none⟩ c).setCell ⟨R,3,none⟩ d).setCell ⟨R,4,none⟩ e):=
 (((((Chg.refl (fun g=>g=R) W).setAt R 0 rfl a).setAt R 1 rfl b).setAt R 2 rfl c).setAt R 3 rfl d).setAt R 4 rfl e
theorem SP {W:World} {R:Nat} {t:TypeId} {x0 x1 x2 x3 x4 x5:Value} (f:Value) (h:W.heap[R]? =some (.cells #[x0,x1,x2,x3,x4,x5] t (0,0))):(W.setCell ⟨R,5,none⟩ f).heap[R]? =some (.cells #[x0,x1,x2,x3,x4,f] t (0,0)):=by
 have h5:=heap_setCell_same _ R 5 _ _ f h
 simpa using h5
end
section
open Go.RowKit

theorem Aj {p:Prop} (h:p):Hid p:=h
def Ns (n:Nat) (w:World) (base:Nat) (m:Bv) (T:Tr) (l:DL):Prop:=Ih n w base m.x T/\w.ownsRow base 141 4 m.v l.length (Au l)
theorem EF {w w' :World} {base e size k R:Nat} {v:Value} {xs:List Value} (h:w.ownsRow base e size v k xs) (hc:Chg (fun g=>g=R) w w') (hR:R<base):w'.ownsRow base e size v k xs:=Cw h hc (fun g hg e=>by have:=(h.lt g hg).1;omega)
end
section
open Go.RowKit

def Sx (n:Nat) (w:World) (base:Nat) (N:AL) (D:Nd):Prop:=
 w.ownsRow base 119 6 N.lv D.l.length (Af D.l)/\Ns n w base N.s D.T1 D.d1/\w.ownsRow base 4 1 N.vv D.vs.length (AJ D.vs)/\w.ownsRow base 3 1 N.nv D.nx.length (Am D.nx)/\w.ownsRow base 3 1 N.mv D.mt.length (Am D.mt)/\Ns n w base N.o D.T2 D.d2
theorem Ao {w:World} {b:Nat} {A:Array Value} {t:TypeId} (h:w.heap[b]? =some (.cells A t (0,0))):w.rangeAt b 0 A.toList:=fun j v hv=>by
 rw[Nat.zero_add,cell_of_row _ _ j _ t (0,0) h]
 simpa using hv
theorem Ba {w:World} {b:Nat} {A:Array Value} {t:TypeId} (h:w.heap[b]? =some (.cells A t (0,0))) {k:Nat} (hk:A.size=k):w.there b 0 k:=fun j hj=>by
 subst hk;rw[Nat.zero_add,cell_of_row _ _ j _ t (0,0) h]
 exact⟨by simp[hj],frozen_of_row w b j A t h⟩
theorem Rb {cur:Array Value} {vs:List Value} (h:cur.size=vs.length):spl cur 0 vs=vs.toArray:=by
 have:=Gu vs cur 0 (by omega)
 simp only[List.take_zero,List.nil_append,Nat.zero_add] at this
 rw[List.drop_eq_nil_of_le (by simp;omega),List.append_nil] at this
 apply Array.ext'
 simpa using this
theorem A7 {W:World} {R:Nat} {t:TypeId} {A:Array Value} (h:W.heap[R]? =some (.cells A t (0,0))) (vs:List Value) (hn:A.size=vs.length):(W.setCells R 0 vs).heap[R]? =some (.cells vs.toArray t (0,0)):=by
 have:=Dg R t vs 0 W A h
 rw[Rb hn] at this
 exact this
theorem Ad {w w' :World} {B:Nat} {o:Obj} (h:w.heap[B]? =some o) (hb:Below w.heap.size w w'):w'.heap[B]? =some o:=(hb.block B (Array.getElem?_eq_some_iff.1 h).1).trans h
theorem Aq {W:World} {R:Nat} {t:TypeId} {A:Array Value} (i:Nat) (u:Value) (h:W.heap[R]? =some (.cells A t (0,0))):(W.setCell ⟨R,i,none⟩ u).heap[R]? =some (.cells (A.setIfInBounds i u) t (0,0)):=heap_setCell_same W R i _ _ u h
theorem Row.sl {w:World} {v:Value} {k:Nat} {xs:List Value} (h:Row w v k xs):∃x:Option Addr × Nat × Nat,v= .slice x.1 x.2.1 x.2.2:=by
 obtain⟨a,_,_,cap,h1,_⟩:=h
 exact⟨(a,k,cap),h1⟩
theorem DJ.sl {n:Nat} {w:World} {m:Bv} {T:Tr} {l:DL} (h:DJ n w m T l):∃(b:Bool) (x1 x2 x3 x4 x5:Option Addr × Nat × Nat),m=⟨⟨b, .slice x1.1 x1.2.1 x1.2.2, .slice x2.1 x2.2.1 x2.2.2, .slice x3.1 x3.2.1 x3.2.2, .slice x4.1 x4.2.1 x4.2.2⟩, .slice x5.1 x5.2.1 x5.2.2⟩:=by
 obtain⟨⟨lf,p,c,k,b⟩,v⟩:=m
 obtain⟨t,r⟩:=h
 obtain⟨x5,e5⟩:=r.sl
 obtain⟨a1,a2,a3,a4,b1,b2,b3,b4,hy⟩:=t.shape
 simp only[TV.mk.injEq] at hy e5
 obtain⟨_,f1,f2,f3,f4⟩:=hy
 subst e5 f1 f2 f3 f4;exact⟨lf,(a1,_,b1),(a2,_,b2),(a3,_,b3),(a4,_,b4),x5,rfl⟩
def TN (w:World) (A C:Array Value) (u:World):Prop:=Below w.heap.size w u/\w.heap.size+3<=u.heap.size/\u.heap[w.heap.size]? =some (.cells A 59 (0,0))/\u.heap[w.heap.size+1]? =some (.cells #[.int .i64 0, .int .i64 0, .int .i64 0, .int .i64 0, .int .i64 0, .slice none 0 0, .bool false, .slice none 0 0, .slice none 0 0, .slice none 0 0, .slice none 0 0, .slice none 0 0, .int .i64 0, .slice none 0 0, .slice none 0 0, .slice none 0 0, .int .i64 0, .bool false, .slice none 0 0, .slice none 0 0, .slice none 0 0, .slice none 0 0, .slice none 0 0] 73 (0,0))/\u.heap[w.heap.size+1+1]? =some (.cells C 73 (0,0))
theorem TN.step {w u u' :World} {A C:Array Value} (h:TN w A C u) (hb:Below u.heap.size u u'):TN w A C u' :=⟨Below.and h.1 hb,Nat.le_trans h.2.1 hb.size,Ad h.2.2.1 hb,Ad h.2.2.2.1 hb,Ad h.2.2.2.2 hb⟩
theorem TN.sets {w u u' :World} {A C C' :Array Value} (h:TN w A C u) (hc:Chg (fun g=>g=w.heap.size+1+1) u u') (h2:u'.heap[w.heap.size+1+1]? =some (.cells C' 73 (0,0))):TN w A C' u':=
 ⟨h.1.trans (hc.below (fun g _ hg=>by omega) h.1.size),Nat.le_trans h.2.1 hc.size,Al h.2.2.1 hc (by omega),Al h.2.2.2.1 hc (by omega),h2⟩
end
section
open Go.RowKit

def SO (n:Nat) (w:World) (base:Nat) (R:BP) (D:Rd):Prop:=
 w.ownsRow base 119 6 R.ev D.l.length (Af D.l)/\Ns n w base R.s D.T D.d
def TR (w:World) (A C:Array Value) (u:World):Prop:=Below w.heap.size w u/\w.heap.size+3<=u.heap.size/\u.heap[w.heap.size]? =some (.cells A 84 (0,0))/\u.heap[w.heap.size+1]? =some (.cells #[.int .i64 0, .int .i64 0, .int .i64 0, .int .i64 0, .int .i64 0, .int .i64 0, .int .i64 0, .bool false, .slice none 0 0, .bool false, .slice none 0 0, .slice none 0 0, .slice none 0 0, .slice none 0 0, .slice none 0 0] 87 (0,0))/\u.heap[w.heap.size+1+1]? =some (.cells C 87 (0,0))
theorem TR.step {w u u' :World} {A C:Array Value} (h:TR w A C u) (hb:Below u.heap.size u u'):TR w A C u' :=⟨Below.and h.1 hb,Nat.le_trans h.2.1 hb.size,Ad h.2.2.1 hb,Ad h.2.2.2.1 hb,Ad h.2.2.2.2 hb⟩
theorem TR.sets {w u u' :World} {A C C' :Array Value} (h:TR w A C u) (hc:Chg (fun g=>g=w.heap.size+1+1) u u') (h2:u'.heap[w.heap.size+1+1]? =some (.cells C' 87 (0,0))):TR w A C' u':=
 ⟨h.1.trans (hc.below (fun g _ hg=>by omega) h.1.size),Nat.le_trans h.2.1 hc.size,Al h.2.2.1 hc (by omega),Al h.2.2.2.1 hc (by omega),h2⟩
end
section
open Go.RowKit

def Cr {ε :Type} (cs: ε ->List Value) (At:World-> ε ->Prop) (w:World) (v:Value) (es:List ε):Prop:=Row w v es.length (es.map cs).flatten/\∀e∈es,At w e
theorem B8 {ε :Type} {cs: ε ->List Value} {K:Nat} (hK:∀e,(cs e).length=K) (es:List ε):DQ K (es.map cs):=fun l hl=>by
 obtain⟨e,_,rfl⟩:=List.mem_map.1 hl
 exact hK e
theorem Cr.parts {ε :Type} {cs: ε ->List Value} {At:World-> ε ->Prop} {w:World} {v:Value} {es:List ε} {K:Nat} (hK:∀e,(cs e).length=K) (h:Cr cs At w v es) :
  ∃(a:Option Addr) (b off cap:Nat),v= .slice a es.length cap/\es.length<=cap/\cap<=maxLen/\(0<es.length->a=some ⟨b,off,none⟩)/\∀u,Below w.heap.size w u->∀(i:Nat) (hi:i<es.length),u.rangeAt b (off+i*K) (cs es[i]):=by
 have h1:=h.1
 rw[show es.length=(es.map cs).length by simp] at h1
 obtain⟨a,b,off,cap,q1,q2,q3,q4,q5⟩:=Row.rangeL (B8 hK es) h1
 rw[List.length_map] at q1 q2 q4
 refine⟨a,b,off,cap,q1,q2,q3,q4,fun u hu i hi=> ?_⟩
 have:=q5 u hu i (by simpa using hi)
 rwa [List.getElem_map] at this
theorem Cr.below {ε :Type} {cs: ε ->List Value} {At:World-> ε ->Prop} (hAt:∀w u e,At w e->Below w.heap.size w u->At u e) {w u:World} {v:Value} {es:List ε} (h:Cr cs At w v es) (hb:Below w.heap.size w u):Cr cs At u v es:=
 ⟨h.1.below hb,fun e he=>hAt w u e (h.2 e he) hb⟩
def Bs {ε :Type} (lk: ε -> ε ->Prop) (es fs:List ε):Prop:=es.length=fs.length/\∀i (h:i<es.length) (h' :i<fs.length),lk es[i] fs[i]
theorem Bs.snoc {ε :Type} {lk: ε -> ε ->Prop} {es fs:List ε} {k:Nat} (hk:k<es.length) {y: ε} (h:Bs lk (es.take k) fs) (hy:lk es[k] y):Bs lk (es.take (k+1)) (fs++[y]):=by
 have hl:fs.length=k:=by have:=h.1;rw[List.length_take] at this;omega
 refine⟨by simp[hl];omega,fun i h1 h2=> ?_⟩
 rw[List.getElem_take]
 by_cases hi:i<k
 ·rw[List.getElem_append_left (by omega)]
  have:=h.2 i (by rw[List.length_take];omega) (by omega)
  rwa [List.getElem_take] at this
 ·rw[List.length_take] at h1
  have e:i=k:=by omega
  subst e;rw[List.getElem_append_right (by omega)]
  simp only[hl,Nat.sub_self,List.getElem_singleton]
  exact hy
def AC {ε :Type} (f: ε ->Nat) (es:List ε) (k:Nat):Nat:=((es.take k).map f).sum
theorem Ht {ε :Type} (f: ε ->Nat) (es:List ε) (k:Nat) (h:k<es.length):AC f es (k+1)=AC f es k+f es[k]:=by
 unfold AC;rw[List.take_succ_eq_append_getElem h,List.map_append,List.sum_append]
 simp
theorem OB:∀ {l:List Nat} {x:Nat},x∈l->x<=l.sum
 |[],_,h=>by cases h
 |a::l,x,h=>by
  rw[List.sum_cons]
  rcases List.mem_cons.1 h with rfl|h
  ·omega
  ·have:=OB h;omega
theorem Om {ε :Type} (f: ε ->Nat) (es:List ε):∀e∈es,f e<=AC f es es.length:=fun e he=>by
 unfold AC;rw[List.take_length]
 exact OB (List.mem_map.2 ⟨_,he,rfl⟩)
theorem FD (z:List Value) (K:Nat) (hz:z.length=K) (hK:0<K) (n:Nat):(madeCells z.toArray (n*K)).toList=(List.replicate n z).flatten:=by
 have ha:DQ K (List.replicate n z):=fun l hl=>by rw[(List.mem_replicate.1 hl).2];exact hz
 apply List.ext_getElem?
 intro j;by_cases hj:j<n*K
 ·have hd:j/K<n:=Nat.div_lt_of_lt_mul (by rw[Nat.mul_comm];exact hj)
  have hm:j%K<K:=Nat.mod_lt _ hK
  have:=ha.at (j/K) (by simpa using hd) (j%K) hm
  have e:j/K*K+j%K=j:=by rw[Nat.mul_comm];exact Nat.div_add_mod j K
  rw[e] at this
  rw[this]
  have h3:j%K<z.length:=by omega
  simp[madeCells,hj,hz]
  rw[List.getElem?_eq_getElem h3]
  rfl
 ·rw[List.getElem?_eq_none (by simp[size_madeCells];omega),List.getElem?_eq_none (by rw[ha.len];simp;omega)]

/-! the kinds -/
abbrev BH:=AL × Nd
def Ax (e:BH):List Value:=[.int .i64 e.1.id, .int .i64 e.1.te, .int .i64 e.1.vo, .int .i64 e.1.lb, .int .i64 e.1.lt,e.1.lv, .bool e.1.s.x.lf,e.1.s.x.p,e.1.s.x.c,e.1.s.x.k,e.1.s.x.b,e.1.s.v, .int .i64 e.1.ro,e.1.vv,e.1.nv,e.1.mv, .int .i64 e.1.cm, .bool e.1.o.x.lf,e.1.o.x.p,e.1.o.x.c,e.1.o.x.k,e.1.o.x.b,e.1.o.v]
def Du (n:Nat) (w:World) (e:BH):Prop:=Bq n w e.1 e.2
def SJ (n:Nat) (base:Nat) (w:World) (e:BH):Prop:=Sx n w base e.1 e.2
def Dv (e f:BH):Prop:=e.1.like f.1/\e.2=f.2
def GD (n:Nat) (e:BH):Nat:=Nd.all n e.2
def Kr:List Value:=[.int .i64 0, .int .i64 0, .int .i64 0, .int .i64 0, .int .i64 0, .slice none 0 0, .bool false, .slice none 0 0, .slice none 0 0, .slice none 0 0, .slice none 0 0, .slice none 0 0, .int .i64 0, .slice none 0 0, .slice none 0 0, .slice none 0 0, .int .i64 0, .bool false, .slice none 0 0, .slice none 0 0, .slice none 0 0, .slice none 0 0, .slice none 0 0]
abbrev BU:=BP × Rd
def AU (e:BU):List Value:=[.int .i64 e.1.kd, .int .i64 e.1.fr, .int .i64 e.1.tt, .int .i64 e.1.te, .int .i64 e.1.ix, .int .i64 e.1.it, .int .i64 e.1.cm, .bool e.1.ok,e.1.ev, .bool e.1.s.x.lf,e.1.s.x.p,e.1.s.x.c,e.1.s.x.k,e.1.s.x.b,e.1.s.v]
def Dw (n:Nat) (w:World) (e:BU):Prop:=Cu n w e.1 e.2
def Sq (n:Nat) (base:Nat) (w:World) (e:BU):Prop:=SO n w base e.1 e.2
def Dx (e f:BU):Prop:=e.1.like f.1/\e.2=f.2
def GL (n:Nat) (e:BU):Nat:=Rd.all n e.2
def NJ:List Value:=[.int .i64 0, .int .i64 0, .int .i64 0, .int .i64 0, .int .i64 0, .int .i64 0, .int .i64 0, .bool false, .slice none 0 0, .bool false, .slice none 0 0, .slice none 0 0, .slice none 0 0, .slice none 0 0, .slice none 0 0]
abbrev Ex:=Int × Int × Int × Int × Int
def AM (e:Ex):List Value:=[.int .i64 e.1, .int .i64 e.2.1, .int .i64 e.2.2.1, .int .i64 e.2.2.2.1, .int .i64 e.2.2.2.2]
def Nt:List Value:=[.int .i64 0, .int .i64 0, .int .i64 0, .int .i64 0, .int .i64 0]
abbrev Er:=Int × Int
def AN (e:Er):List Value:=[.int .i64 e.1, .int .i64 e.2]
def NH:List Value:=[.int .i64 0, .int .i64 0]
def F6 {ε :Type} (_:World) (_: ε):Prop:=True
end
section
open Go.RowKit

theorem OI (n:Nat) (v:Value) (es:List BH) (left:Int) (w:World) (h:Cr Ax (Du n) w v es) (h0:0<=left) (h1:left<=1048576) :
  Calls Tryz.prog 22 #[v, .int .i64 left] w fun e w' =>∃r:Int,e= .returned (.int .i64 r)/\r<=1048576/\(¬r<0->r+es.length+(AC (GD n) es es.length:Nat)<=left)/\Below w.heap.size w w' :=by
 obtain⟨a,b,off,cap,rfl,hcap,hmax,ha,rg⟩:=h.parts (K:=23) (fun _=>rfl)
 unfold maxLen at hmax;have SZ:=hq (fun u i (L:Int) (hi:i<es.length) (hu:Below w.heap.size w u) (h0:0<=L) (h1:L<=1048576)=>Mt n es[i].1 es[i].2 L u ((h.2 _ (List.getElem_mem hi)).below hu) h0 h1)
 have SS:=hq (fun i (hi:i<es.length)=>Ht (GD n) es i hi)
 have S0:Hid (AC (GD n) es 0=0):=by show _=_;simp[AC]
 have RG:=hq rg
 have HA:=hq ha
 clear h rg ha;by_cases hl:(es.length:Int)<=left
 ·go_enter Tryz.func22,Tryz.ntmps22
  go_wp2;go_loopw [1,5] (fun lf i wr=>∃(k:Nat) (L:Int),k<=es.length/\lf= .int .i64 L/\i= .int .i64 k/\0<=L/\L<=1048576/\Hid (L+es.length+(AC (GD n) es k:Nat)<=left)/\Hid (Below w.heap.size w wr)) (fun _ i _=>es.length-(intOf i).toNat)
  case atStart=>exact⟨0,left-es.length,Nat.zero_le _,rfl,rfl,by omega,by omega,by show _<=_;rw[S0.out];omega,Below.refl _ _⟩
  case round=>
   obtain⟨k,L,hk,rfl,rfl,hL0,hL1,SL,BW⟩:=hrel
   by_cases hlt:k<es.length
   ·have hal:=HA.out (by omega)
    subst hal;have hi:(k:Int)<(es.length:Int):=by omega
    have RU:=hq (RG.out wr BW.out k hlt)
    have S1:=hq (SS.out k hlt)
    go_wp2_with (refine wpList_load_mid rfl 59 _ rfl b (off+k*23) rfl (Ax es[k]) _ RU.out Tryz.underlying59 rfl (show(Tryz.prog.info? 59).map (·.size)=some 23 by kernel_rfl) ?_)
    refine(SZ.out wr k L hlt BW.out hL0 hL1).mono ?_
    rintro e w1 ⟨r,rfl,hr1,hr2,b1⟩
    have B1:=hq (Below.and BW.out b1)
    have R2:=hq hr2
    clear b1 hr2;by_cases hr:r<0
    ·go_wp2;go_ret;exact⟨_,rfl,by omega,fun h=>by omega,B1.out⟩
    ·go_wp2;go_roundw
     case rel=>exact⟨k+1,r,by omega,rfl,by go_num,by omega,by omega,(by show _<=_;have e1:=R2.out hr;have e2:=SL.out;rw[S1.out];unfold GD at *;omega),B1.out⟩
     case measure=>simp[intOf];omega
   ·have hi:¬(k:Int)<(es.length:Int):=by omega
    have FIN:Hid (L+es.length+(AC (GD n) es es.length:Nat)<=left):=by have:=SL.out;rw[show k=es.length by omega] at this;exact this
    go_wp2;go_ret;exact⟨_,rfl,by omega,fun _=>FIN.out,BW.out⟩
 ·go_enter Tryz.func22,Tryz.ntmps22
  go_wp2;go_ret;exact⟨_,rfl,by omega,fun h=>by omega,Below.refl _ _⟩

theorem Qp (n:Nat) (v:Value) (es:List BU) (left:Int) (w:World) (h:Cr AU (Dw n) w v es) (h0:0<=left) (h1:left<=1048576) :
  Calls Tryz.prog 6 #[v, .int .i64 left] w fun e w' =>∃r:Int,e= .returned (.int .i64 r)/\r<=1048576/\(¬r<0->r+es.length+(AC (GL n) es es.length:Nat)<=left)/\Below w.heap.size w w' :=by
 obtain⟨a,b,off,cap,rfl,hcap,hmax,ha,rg⟩:=h.parts (K:=15) (fun _=>rfl)
 unfold maxLen at hmax;have SZ:=hq (fun u i (L:Int) (hi:i<es.length) (hu:Below w.heap.size w u) (h0:0<=L) (h1:L<=1048576)=>RV n es[i].1 es[i].2 L u ((h.2 _ (List.getElem_mem hi)).below hu) h0 h1)
 have SS:=hq (fun i (hi:i<es.length)=>Ht (GL n) es i hi)
 have S0:Hid (AC (GL n) es 0=0):=by show _=_;simp[AC]
 have RG:=hq rg
 have HA:=hq ha
 clear h rg ha;by_cases hl:(es.length:Int)<=left
 ·go_enter Tryz.func6,Tryz.ntmps6
  go_wp2;go_loopw [1,5] (fun lf i wr=>∃(k:Nat) (L:Int),k<=es.length/\lf= .int .i64 L/\i= .int .i64 k/\0<=L/\L<=1048576/\Hid (L+es.length+(AC (GL n) es k:Nat)<=left)/\Hid (Below w.heap.size w wr)) (fun _ i _=>es.length-(intOf i).toNat)
  case atStart=>exact⟨0,left-es.length,Nat.zero_le _,rfl,rfl,by omega,by omega,by show _<=_;rw[S0.out];omega,Below.refl _ _⟩
  case round=>
   obtain⟨k,L,hk,rfl,rfl,hL0,hL1,SL,BW⟩:=hrel
   by_cases hlt:k<es.length
   ·have hal:=HA.out (by omega)
    subst hal;have hi:(k:Int)<(es.length:Int):=by omega
    have RU:=hq (RG.out wr BW.out k hlt)
    have S1:=hq (SS.out k hlt)
    go_wp2_with (refine wpList_load_mid rfl 84 _ rfl b (off+k*15) rfl (AU es[k]) _ RU.out Tryz.underlying84 rfl (show(Tryz.prog.info? 84).map (·.size)=some 15 by kernel_rfl) ?_)
    refine(SZ.out wr k L hlt BW.out hL0 hL1).mono ?_
    rintro e w1 ⟨r,rfl,hr1,hr2,b1⟩
    have B1:=hq (Below.and BW.out b1)
    have R2:=hq hr2
    clear b1 hr2;by_cases hr:r<0
    ·go_wp2;go_ret;exact⟨_,rfl,by omega,fun h=>by omega,B1.out⟩
    ·go_wp2;go_roundw
     case rel=>exact⟨k+1,r,by omega,rfl,by go_num,by omega,by omega,(by show _<=_;have e1:=R2.out hr;have e2:=SL.out;rw[S1.out];unfold GL at *;omega),B1.out⟩
     case measure=>simp[intOf];omega
   ·have hi:¬(k:Int)<(es.length:Int):=by omega
    have FIN:Hid (L+es.length+(AC (GL n) es es.length:Nat)<=left):=by have:=SL.out;rw[show k=es.length by omega] at this;exact this
    go_wp2;go_ret;exact⟨_,rfl,by omega,fun _=>FIN.out,BW.out⟩
 ·go_enter Tryz.func6,Tryz.ntmps6
  go_wp2;go_ret;exact⟨_,rfl,by omega,fun h=>by omega,Below.refl _ _⟩

theorem Nb (a:Option Addr) (n cap:Nat) (left:Int) (hn:n<=maxLen) (hl:0<=left) (hl2:left<=1048576) (w:World) :
  Calls Tryz.prog 23 #[.slice a n cap, .int .i64 left] w fun e w' =>e= .returned (.int .i64 (if (n:Int)<=left then left-n else -1))/\w' =w:=by
 unfold maxLen at hn;by_cases h:(n:Int)<=left
 ·go_enter Tryz.func23,Tryz.ntmps23
  go_wp2;go_ret;exact⟨rfl,rfl⟩
 ·go_enter Tryz.func23,Tryz.ntmps23
  go_wp2;go_ret;exact⟨rfl,rfl⟩

theorem K7 (a:Option Addr) (n cap:Nat) (left:Int) (hn:n<=maxLen) (hl:0<=left) (hl2:left<=1048576) (w:World) :
  Calls Tryz.prog 25 #[.slice a n cap, .int .i64 left] w fun e w' =>e= .returned (.int .i64 (if (n:Int)<=left then left-n else -1))/\w' =w:=by
 unfold maxLen at hn;by_cases h:(n:Int)<=left
 ·go_enter Tryz.func25,Tryz.ntmps25
  go_wp2;go_ret;exact⟨rfl,rfl⟩
 ·go_enter Tryz.func25,Tryz.ntmps25
  go_wp2;go_ret;exact⟨rfl,rfl⟩
end
end Go.Proofs.YtkcaelfkcepdkaaGreat
