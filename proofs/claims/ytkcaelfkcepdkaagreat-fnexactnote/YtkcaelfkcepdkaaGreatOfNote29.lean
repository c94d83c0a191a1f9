/-
  toWorld: what comes lies in memory of its own, list by list in stretches of blocks.
  The laws' function that looks for marks in a row of Rpcs.
-/
import Derived.Test.YtkcaelfkcepdkaaGreatOfNote11
import Derived.Test.YtkcaelfkcepdkaaGreatOfNote28
import Derived.Test.YtkcaelfkcepdkaaGreatOfNote27
namespace Go.Proofs.YtkcaelfkcepdkaaGreat
set_option maxRecDepth 100000
set_option maxHeartbeats 8000000
section
open Go.RowKit

theorem Ml {ε :Type} {cs: ε ->List Value} {d: ε} {ty K:Nat} {w:World} {lo:Nat} {v:Value} {es:List ε} (h:w.ownsRow lo ty K v es.length (es.map cs).flatten) (hl:lo<=w.heap.size):LsI cs noI d ty K w lo w.heap.size v es:=by
 have ho:Ac w lo ty K v es.length (es.map cs).flatten:= .inl h
 exact⟨ho,fun g hg=>(ho.lt g hg).2,hl,Nat.le_refl _,fun _=>lo,fun _=>lo,fun _ _=>⟨Nat.le_refl _,Nat.le_refl _,hl,trivial,fun g g1 g2=>by omega⟩,fun _ _ _ _=>Nat.le_refl _⟩
def WrI (n:Nat) (w:World) (lo hi:Nat) (W:WrV) (D:Wd):Prop:=
 ∃a b:Nat->Nat,(∀i,i<5->lo<=a i/\b i<=hi)/\(∀i j,i<5->j<5->i≠j->b i<=a j∨b j<=a i)/\hi<=w.heap.size∧
  LsI Ax (Fi n) Ap 73 23 w (a 0) (b 0) W.nv D.ns/\LsI AU (FQ n) Av 87 15 w (a 1) (b 1) W.rv D.rs/\LsI AM noI CU 117 5 w (a 2) (b 2) W.cv D.cs/\Ar w (a 3) (b 3) 141 4 W.av D.ds.length (Au D.ds)/\LsI AN noI Cc 121 2 w (a 4) (b 4) W.lv D.ls
theorem WrI.chg {n:Nat} {w w' :World} {lo hi:Nat} {W:WrV} {D:Wd} {P:Nat->Prop} (h:WrI n w lo hi W D) (hc:Chg P w w') (hP:∀g,lo<=g->g<hi->¬P g):WrI n w' lo hi W D:=by
 obtain⟨a,b,h1,h2,h3,o0,o1,o2,o3,o4⟩:=h
 have k0:=h1 0 (by omega)
 have k1:=h1 1 (by omega)
 have k2:=h1 2 (by omega)
 have k3:=h1 3 (by omega)
 have k4:=h1 4 (by omega)
 exact⟨a,b,h1,h2,Nat.le_trans h3 hc.size,LsI.chg (BC n) o0 hc (fun g g1 g2 e=>hP g (by omega) (by omega) e),LsI.chg (Ce n) o1 hc (fun g g1 g2 e=>hP g (by omega) (by omega) e),LsI.chg Dj o2 hc (fun g g1 g2 e=>hP g (by omega) (by omega) e),o3.chg hc (fun g g1 g2 e=>hP g (by omega) (by omega) e),LsI.chg Dj o4 hc (fun g g1 g2 e=>hP g (by omega) (by omega) e)⟩
theorem WrI.below {n:Nat} {w w' :World} {lo hi:Nat} {W:WrV} {D:Wd} (h:WrI n w lo hi W D) (hb:Below w.heap.size w w'):WrI n w' lo hi W D:=h.chg (Chg.of_below (F:=fun _=>False) hb) (fun _ _ _ e=>e)
theorem WrI.at {n:Nat} {w:World} {lo hi:Nat} {W:WrV} {D:Wd} (h:WrI n w lo hi W D):CG n w W D:=by
 obtain⟨a,b,_,_,_,o0,o1,o2,o3,o4⟩:=h
 exact⟨o0.at (fun _ _ _ _ h=>Eg.at h),o1.at (fun _ _ _ _ h=>Ee.at h),o2.at (fun _ _ _ _ _=>trivial),o3.row,o4.at (fun _ _ _ _ _=>trivial)⟩

theorem PZ (n:Nat) (W:WrV) (D:Wd) (w:World) (h:CG n w W D) (hs:D.small n) :
  Calls Tryz.prog 8 #[W.val] w fun e w' =>∃(V:WrV) (E:Wd),e= .returned V.val/\W.sz=V.sz/\D.like E/\WrI n w' w.heap.size w'.heap.size V E/\Below w.heap.size w w' :=by
 obtain⟨sz,nv,rv,cv,av,lv⟩:=W
 obtain⟨q1,q2,q3,q4,q5⟩:=h
 have L0:=hq (fun u (hu:Below w.heap.size w u)=>OS n nv D.ns u (q1.below (FP n) hu) hs.n1 hs.n)
 have L1:=hq (fun u (hu:Below w.heap.size w u)=>QN n rv D.rs u (q2.below (FH n) hu) hs.r1 hs.r)
 have L2:=hq (fun u (hu:Below w.heap.size w u)=>Nv cv D.cs u (q3.below Et hu) hs.c)
 have L3:=hq (fun u (hu:Below w.heap.size w u)=>Ib av D.ds u (q4.below hu) hs.d)
 have L4:=hq (fun u (hu:Below w.heap.size w u)=>Ly lv D.ls u (q5.below Et hu) hs.l)
 have b0:Below w.heap.size w (((w.alloc (.cells #[.int .i64 sz,nv,rv,cv,av,lv] 28)).alloc (.cells #[.int .i64 0, .slice none 0 0, .slice none 0 0, .slice none 0 0, .slice none 0 0, .slice none 0 0] 37)).alloc (.cells #[.int .i64 sz, .slice none 0 0, .slice none 0 0, .slice none 0 0, .slice none 0 0, .slice none 0 0] 37)):=(((Below.refl _ _).alloc (Nat.le_refl _) _).alloc (by simp) _).alloc (by simp;omega) _
 have n0:=((Ai.start 28 w #[.int .i64 sz,nv,rv,cv,av,lv]).step (Ae _ (.cells #[.int .i64 0, .slice none 0 0, .slice none 0 0, .slice none 0 0, .slice none 0 0, .slice none 0 0] 37))).step (Ae _ (.cells #[.int .i64 sz, .slice none 0 0, .slice none 0 0, .slice none 0 0, .slice none 0 0, .slice none 0 0] 37))
 have n1:=(Ai.start 37 (w.alloc (.cells #[.int .i64 sz,nv,rv,cv,av,lv] 28)) #[.int .i64 0, .slice none 0 0, .slice none 0 0, .slice none 0 0, .slice none 0 0, .slice none 0 0]).step (Ae _ (.cells #[.int .i64 sz, .slice none 0 0, .slice none 0 0, .slice none 0 0, .slice none 0 0, .slice none 0 0] 37))
 have n2:=Ai.start 37 ((w.alloc (.cells #[.int .i64 sz,nv,rv,cv,av,lv] 28)).alloc (.cells #[.int .i64 0, .slice none 0 0, .slice none 0 0, .slice none 0 0, .slice none 0 0, .slice none 0 0] 37)) #[.int .i64 sz, .slice none 0 0, .slice none 0 0, .slice none 0 0, .slice none 0 0, .slice none 0 0]
 simp only[World.size_alloc] at n1 n2
 have zz:w.heap.size+3<=(((w.alloc (.cells #[.int .i64 sz,nv,rv,cv,av,lv] 28)).alloc (.cells #[.int .i64 0, .slice none 0 0, .slice none 0 0, .slice none 0 0, .slice none 0 0, .slice none 0 0] 37)).alloc (.cells #[.int .i64 sz, .slice none 0 0, .slice none 0 0, .slice none 0 0, .slice none 0 0, .slice none 0 0] 37)).heap.size:=by simp
 have c0:=n0.cells
 have G:Hid (TW w #[.int .i64 sz,nv,rv,cv,av,lv] #[.int .i64 sz, .slice none 0 0, .slice none 0 0, .slice none 0 0, .slice none 0 0, .slice none 0 0] (((w.alloc (.cells #[.int .i64 sz,nv,rv,cv,av,lv] 28)).alloc (.cells #[.int .i64 0, .slice none 0 0, .slice none 0 0, .slice none 0 0, .slice none 0 0, .slice none 0 0] 37)).alloc (.cells #[.int .i64 sz, .slice none 0 0, .slice none 0 0, .slice none 0 0, .slice none 0 0, .slice none 0 0] 37))):=⟨b0,zz,n0,n1,n2⟩
 clear q1 q2 q3 q4 q5 hs b0 n0 n1 n2 zz;show Calls Tryz.prog 8 #[.agg #[.int .i64 sz,nv,rv,cv,av,lv]] w _
 go_enter Tryz.func8,Tryz.ntmps8
 go_wp2_with fail;generalize (((w.alloc (.cells #[.int .i64 sz,nv,rv,cv,av,lv] 28)).alloc (.cells #[.int .i64 0, .slice none 0 0, .slice none 0 0, .slice none 0 0, .slice none 0 0, .slice none 0 0] 37)).alloc (.cells #[.int .i64 sz, .slice none 0 0, .slice none 0 0, .slice none 0 0, .slice none 0 0, .slice none 0 0] 37))=V0 at *
 have SZ0:Hid (w.heap.size+3<=V0.heap.size):=G.out.2.1
 refine(L0.out _ G.out.1).mono ?_
 rintro e w1 ⟨z,f0,rfl,lk0,o0,b0⟩
 obtain⟨x0,hz⟩:=o0.1.rowF.row.sl
 subst hz;have O0:Hid (LsI Ax (Fi n) Ap 73 23 w1 V0.heap.size w1.heap.size (.slice x0.1 x0.2.1 x0.2.2) f0):=o0
 have SB0:Hid (V0.heap.size<=w1.heap.size):=b0.size
 have K0:=hq lk0
 replace G:=hq (G.out.step b0)
 clear b0 o0 c0 lk0;have c0:=fun j=>Aa (j:=j) G.out.2.2.1
 have ff:∀j,w1.frozen? ⟨w.heap.size+1+1,j,none⟩=false:=fun j=>Ab G.out.2.2.2.2
 have dd:∀j,w1.cell? ⟨w.heap.size+1+1,j,none⟩=(#[.int .i64 sz, .slice none 0 0, .slice none 0 0, .slice none 0 0, .slice none 0 0, .slice none 0 0]:Array Value)[j]? :=fun j=>Aa G.out.2.2.2.2
 obtain⟨g1,g2⟩:=G.out.set 1 (.slice x0.1 x0.2.1 x0.2.2)
 have G2:Hid (TW w #[.int .i64 sz,nv,rv,cv,av,lv] #[.int .i64 sz, .slice x0.1 x0.2.1 x0.2.2, .slice none 0 0, .slice none 0 0, .slice none 0 0, .slice none 0 0] (w1.setCell ⟨w.heap.size+1+1,1,none⟩ (.slice x0.1 x0.2.1 x0.2.2))):=by show TW _ _ _ _;simpa using g1
 have szz:=g2.size
 have tt:=SZ0.out
 replace O0:=hq (LsI.chg (BC n) O0.out g2 (fun g g1 g2 e=>by omega))
 have SC1:Hid (w1.heap.size<=(w1.setCell ⟨w.heap.size+1+1,1,none⟩ (.slice x0.1 x0.2.1 x0.2.2)).heap.size):=szz
 clear g1 g2 G c0 szz tt;have G:=G2
 clear G2;have c0:∀j,(w1.setCell ⟨w.heap.size+1+1,1,none⟩ (.slice x0.1 x0.2.1 x0.2.2)).cell? ⟨w.heap.size,j,none⟩=(#[.int .i64 sz,nv,rv,cv,av,lv]:Array Value)[j]? :=fun j=>Aa G.out.2.2.1
 go_upto_region 4 with fail
 clear ff dd;generalize w1.setCell ⟨w.heap.size+1+1,1,none⟩ (.slice x0.1 x0.2.1 x0.2.2)=V1 at *
 go_wp2_with fail;refine(L1.out _ G.out.1).mono ?_
 rintro e w2 ⟨z,f1,rfl,lk1,o1,b1⟩
 obtain⟨x1,hz⟩:=o1.1.rowF.row.sl
 subst hz;have O1:Hid (LsI AU (FQ n) Av 87 15 w2 V1.heap.size w2.heap.size (.slice x1.1 x1.2.1 x1.2.2) f1):=o1
 have SB1:Hid (V1.heap.size<=w2.heap.size):=b1.size
 have K1:=hq lk1
 replace O0:=hq (LsI.below (BC n) O0.out b1)
 replace G:=hq (G.out.step b1)
 clear b1 o1 c0 lk1;have c0:=fun j=>Aa (j:=j) G.out.2.2.1
 have ff:∀j,w2.frozen? ⟨w.heap.size+1+1,j,none⟩=false:=fun j=>Ab G.out.2.2.2.2
 have dd:∀j,w2.cell? ⟨w.heap.size+1+1,j,none⟩=(#[.int .i64 sz, .slice x0.1 x0.2.1 x0.2.2, .slice none 0 0, .slice none 0 0, .slice none 0 0, .slice none 0 0]:Array Value)[j]? :=fun j=>Aa G.out.2.2.2.2
 obtain⟨g1,g2⟩:=G.out.set 2 (.slice x1.1 x1.2.1 x1.2.2)
 have G2:Hid (TW w #[.int .i64 sz,nv,rv,cv,av,lv] #[.int .i64 sz, .slice x0.1 x0.2.1 x0.2.2, .slice x1.1 x1.2.1 x1.2.2, .slice none 0 0, .slice none 0 0, .slice none 0 0] (w2.setCell ⟨w.heap.size+1+1,2,none⟩ (.slice x1.1 x1.2.1 x1.2.2))):=by show TW _ _ _ _;simpa using g1
 have szz:=g2.size
 have tt:=SZ0.out
 replace O0:=hq (LsI.chg (BC n) O0.out g2 (fun g g1 g2 e=>by omega))
 replace O1:=hq (LsI.chg (Ce n) O1.out g2 (fun g g1 g2 e=>by have:=SC1.out;have:=SB0.out;omega))
 have SC2:Hid (w2.heap.size<=(w2.setCell ⟨w.heap.size+1+1,2,none⟩ (.slice x1.1 x1.2.1 x1.2.2)).heap.size):=szz
 clear g1 g2 G c0 szz tt;have G:=G2
 clear G2;have c0:∀j,(w2.setCell ⟨w.heap.size+1+1,2,none⟩ (.slice x1.1 x1.2.1 x1.2.2)).cell? ⟨w.heap.size,j,none⟩=(#[.int .i64 sz,nv,rv,cv,av,lv]:Array Value)[j]? :=fun j=>Aa G.out.2.2.1
 go_upto_region 5 with fail
 clear ff dd;generalize w2.setCell ⟨w.heap.size+1+1,2,none⟩ (.slice x1.1 x1.2.1 x1.2.2)=V2 at *
 go_wp2_with fail;refine(L2.out _ G.out.1).mono ?_
 rintro e w3 ⟨z,f2,rfl,lk2,o2,b2⟩
 rw[←lk2.eq] at o2
 obtain⟨x2,hz⟩:=(Row.of_owns o2).sl
 subst hz;have O2:Hid (LsI AM noI CU 117 5 w3 V2.heap.size w3.heap.size (.slice x2.1 x2.2.1 x2.2.2) D.cs):=Ml o2 b2.size
 have SB2:Hid (V2.heap.size<=w3.heap.size):=b2.size
 replace O0:=hq (LsI.below (BC n) O0.out b2)
 replace O1:=hq (LsI.below (Ce n) O1.out b2)
 replace G:=hq (G.out.step b2)
 clear b2 o2 c0 lk2;have c0:=fun j=>Aa (j:=j) G.out.2.2.1
 have ff:∀j,w3.frozen? ⟨w.heap.size+1+1,j,none⟩=false:=fun j=>Ab G.out.2.2.2.2
 have dd:∀j,w3.cell? ⟨w.heap.size+1+1,j,none⟩=(#[.int .i64 sz, .slice x0.1 x0.2.1 x0.2.2, .slice x1.1 x1.2.1 x1.2.2, .slice none 0 0, .slice none 0 0, .slice none 0 0]:Array Value)[j]? :=fun j=>Aa G.out.2.2.2.2
 obtain⟨g1,g2⟩:=G.out.set 3 (.slice x2.1 x2.2.1 x2.2.2)
 have G2:Hid (TW w #[.int .i64 sz,nv,rv,cv,av,lv] #[.int .i64 sz, .slice x0.1 x0.2.1 x0.2.2, .slice x1.1 x1.2.1 x1.2.2, .slice x2.1 x2.2.1 x2.2.2, .slice none 0 0, .slice none 0 0] (w3.setCell ⟨w.heap.size+1+1,3,none⟩ (.slice x2.1 x2.2.1 x2.2.2))):=by show TW _ _ _ _;simpa using g1
 have szz:=g2.size
 have tt:=SZ0.out
 replace O0:=hq (LsI.chg (BC n) O0.out g2 (fun g g1 g2 e=>by omega))
 replace O1:=hq (LsI.chg (Ce n) O1.out g2 (fun g g1 g2 e=>by have:=SC1.out;have:=SB0.out;omega))
 replace O2:=hq (LsI.chg Dj O2.out g2 (fun g g1 g2 e=>by have:=SC1.out;have:=SC2.out;have:=SB0.out;have:=SB1.out;omega))
 have SC3:Hid (w3.heap.size<=(w3.setCell ⟨w.heap.size+1+1,3,none⟩ (.slice x2.1 x2.2.1 x2.2.2)).heap.size):=szz
 clear g1 g2 G c0 szz tt;have G:=G2
 clear G2;have c0:∀j,(w3.setCell ⟨w.heap.size+1+1,3,none⟩ (.slice x2.1 x2.2.1 x2.2.2)).cell? ⟨w.heap.size,j,none⟩=(#[.int .i64 sz,nv,rv,cv,av,lv]:Array Value)[j]? :=fun j=>Aa G.out.2.2.1
 go_upto_region 6 with fail
 clear ff dd;generalize w3.setCell ⟨w.heap.size+1+1,3,none⟩ (.slice x2.1 x2.2.1 x2.2.2)=V3 at *
 go_wp2_with fail;refine(L3.out _ G.out.1).mono ?_
 rintro e w4 ⟨z,rfl,o3,b3⟩
 obtain⟨x3,hz⟩:=(Row.of_owns o3).sl
 subst hz;have O3:Hid (Ar w4 V3.heap.size w4.heap.size 141 4 (.slice x3.1 x3.2.1 x3.2.2) D.ds.length (Au D.ds)):=Ar.made (.inl o3)
 have SB3:Hid (V3.heap.size<=w4.heap.size):=b3.size
 replace O0:=hq (LsI.below (BC n) O0.out b3)
 replace O1:=hq (LsI.below (Ce n) O1.out b3)
 replace O2:=hq (LsI.below Dj O2.out b3)
 replace G:=hq (G.out.step b3)
 clear b3 o3 c0;have c0:=fun j=>Aa (j:=j) G.out.2.2.1
 have ff:∀j,w4.frozen? ⟨w.heap.size+1+1,j,none⟩=false:=fun j=>Ab G.out.2.2.2.2
 have dd:∀j,w4.cell? ⟨w.heap.size+1+1,j,none⟩=(#[.int .i64 sz, .slice x0.1 x0.2.1 x0.2.2, .slice x1.1 x1.2.1 x1.2.2, .slice x2.1 x2.2.1 x2.2.2, .slice none 0 0, .slice none 0 0]:Array Value)[j]? :=fun j=>Aa G.out.2.2.2.2
 obtain⟨g1,g2⟩:=G.out.set 4 (.slice x3.1 x3.2.1 x3.2.2)
 have G2:Hid (TW w #[.int .i64 sz,nv,rv,cv,av,lv] #[.int .i64 sz, .slice x0.1 x0.2.1 x0.2.2, .slice x1.1 x1.2.1 x1.2.2, .slice x2.1 x2.2.1 x2.2.2, .slice x3.1 x3.2.1 x3.2.2, .slice none 0 0] (w4.setCell ⟨w.heap.size+1+1,4,none⟩ (.slice x3.1 x3.2.1 x3.2.2))):=by show TW _ _ _ _;simpa using g1
 have szz:=g2.size
 have tt:=SZ0.out
 replace O0:=hq (LsI.chg (BC n) O0.out g2 (fun g g1 g2 e=>by omega))
 replace O1:=hq (LsI.chg (Ce n) O1.out g2 (fun g g1 g2 e=>by have:=SC1.out;have:=SB0.out;omega))
 replace O2:=hq (LsI.chg Dj O2.out g2 (fun g g1 g2 e=>by have:=SC1.out;have:=SC2.out;have:=SB0.out;have:=SB1.out;omega))
 replace O3:=hq (O3.out.chg g2 (fun g g1 g2 e=>by have:=SC1.out;have:=SC2.out;have:=SC3.out;have:=SB0.out;have:=SB1.out;have:=SB2.out;omega))
 have SC4:Hid (w4.heap.size<=(w4.setCell ⟨w.heap.size+1+1,4,none⟩ (.slice x3.1 x3.2.1 x3.2.2)).heap.size):=szz
 clear g1 g2 G c0 szz tt;have G:=G2
 clear G2;have c0:∀j,(w4.setCell ⟨w.heap.size+1+1,4,none⟩ (.slice x3.1 x3.2.1 x3.2.2)).cell? ⟨w.heap.size,j,none⟩=(#[.int .i64 sz,nv,rv,cv,av,lv]:Array Value)[j]? :=fun j=>Aa G.out.2.2.1
 go_upto_region 7 with fail
 clear ff dd;generalize w4.setCell ⟨w.heap.size+1+1,4,none⟩ (.slice x3.1 x3.2.1 x3.2.2)=V4 at *
 go_wp2_with fail;refine(L4.out _ G.out.1).mono ?_
 rintro e w5 ⟨z,f4,rfl,lk4,o4,b4⟩
 rw[←lk4.eq] at o4
 obtain⟨x4,hz⟩:=(Row.of_owns o4).sl
 subst hz;have O4:Hid (LsI AN noI Cc 121 2 w5 V4.heap.size w5.heap.size (.slice x4.1 x4.2.1 x4.2.2) D.ls):=Ml o4 b4.size
 have SB4:Hid (V4.heap.size<=w5.heap.size):=b4.size
 replace O0:=hq (LsI.below (BC n) O0.out b4)
 replace O1:=hq (LsI.below (Ce n) O1.out b4)
 replace O2:=hq (LsI.below Dj O2.out b4)
 replace O3:=hq (O3.out.below b4)
 replace G:=hq (G.out.step b4)
 clear b4 o4 c0 lk4;have c0:=fun j=>Aa (j:=j) G.out.2.2.1
 have ff:∀j,w5.frozen? ⟨w.heap.size+1+1,j,none⟩=false:=fun j=>Ab G.out.2.2.2.2
 have dd:∀j,w5.cell? ⟨w.heap.size+1+1,j,none⟩=(#[.int .i64 sz, .slice x0.1 x0.2.1 x0.2.2, .slice x1.1 x1.2.1 x1.2.2, .slice x2.1 x2.2.1 x2.2.2, .slice x3.1 x3.2.1 x3.2.2, .slice none 0 0]:Array Value)[j]? :=fun j=>Aa G.out.2.2.2.2
 obtain⟨g1,g2⟩:=G.out.set 5 (.slice x4.1 x4.2.1 x4.2.2)
 have G2:Hid (TW w #[.int .i64 sz,nv,rv,cv,av,lv] #[.int .i64 sz, .slice x0.1 x0.2.1 x0.2.2, .slice x1.1 x1.2.1 x1.2.2, .slice x2.1 x2.2.1 x2.2.2, .slice x3.1 x3.2.1 x3.2.2, .slice x4.1 x4.2.1 x4.2.2] (w5.setCell ⟨w.heap.size+1+1,5,none⟩ (.slice x4.1 x4.2.1 x4.2.2))):=by show TW _ _ _ _;simpa using g1
 have szz:=g2.size
 have tt:=SZ0.out
 replace O0:=hq (LsI.chg (BC n) O0.out g2 (fun g g1 g2 e=>by omega))
 replace O1:=hq (LsI.chg (Ce n) O1.out g2 (fun g g1 g2 e=>by have:=SC1.out;have:=SB0.out;omega))
 replace O2:=hq (LsI.chg Dj O2.out g2 (fun g g1 g2 e=>by have:=SC1.out;have:=SC2.out;have:=SB0.out;have:=SB1.out;omega))
 replace O3:=hq (O3.out.chg g2 (fun g g1 g2 e=>by have:=SC1.out;have:=SC2.out;have:=SC3.out;have:=SB0.out;have:=SB1.out;have:=SB2.out;omega))
 replace O4:=hq (LsI.chg Dj O4.out g2 (fun g g1 g2 e=>by have:=SC1.out;have:=SC2.out;have:=SC3.out;have:=SC4.out;have:=SB0.out;have:=SB1.out;have:=SB2.out;have:=SB3.out;omega))
 have SC5:Hid (w5.heap.size<=(w5.setCell ⟨w.heap.size+1+1,5,none⟩ (.slice x4.1 x4.2.1 x4.2.2)).heap.size):=szz
 clear g1 g2 G c0 szz tt;have G:=G2
 clear G2;have c0:∀j,(w5.setCell ⟨w.heap.size+1+1,5,none⟩ (.slice x4.1 x4.2.1 x4.2.2)).cell? ⟨w.heap.size,j,none⟩=(#[.int .i64 sz,nv,rv,cv,av,lv]:Array Value)[j]? :=fun j=>Aa G.out.2.2.1
 go_upto_region 8 with fail
 clear ff dd;generalize w5.setCell ⟨w.heap.size+1+1,5,none⟩ (.slice x4.1 x4.2.1 x4.2.2)=V at *
 obtain⟨cs,hcs⟩:∃cs:List Value,cs=[.int .i64 sz, .slice x0.1 x0.2.1 x0.2.2, .slice x1.1 x1.2.1 x1.2.2, .slice x2.1 x2.2.1 x2.2.2, .slice x3.1 x3.2.1 x3.2.2, .slice x4.1 x4.2.1 x4.2.2]:=⟨_,rfl⟩
 have RG:Hid (V.rangeAt (w.heap.size+1+1) 0 cs):=by rw[hcs];exact Ao G.out.2.2.2.2
 have TH:Hid (V.there (w.heap.size+1) 0 cs.toArray.size):=by rw[hcs];exact Ba G.out.2.2.2.1 rfl
 have HI:Hid ((Tryz.prog.info? 37).map (·.size)=some cs.length):=by rw[hcs];exact(show(Tryz.prog.info? 37).map (·.size)=some 6 by kernel_rfl)
 have ONE:Hid (cs.toArray.all (·.oneCell')=true):=by rw[hcs];show _=_;simp[Value.oneCell']
 have GC:Chg (fun g=>g=w.heap.size+1) V (V.setCells (w.heap.size+1) 0 cs):=Chg.setCells (F:=fun b=>b=w.heap.size+1) (g:=w.heap.size+1) (fun _=>rfl) cs 0 V (Chg.refl _ _)
 have X1:Hid ((V.setCells (w.heap.size+1) 0 cs).heap[w.heap.size+1]? =some (.cells cs.toArray 37 (0,0))):=A7 G.out.2.2.2.1 cs (by rw[hcs];rfl)
 have BF:=hq (G.out.1.trans (GC.below (fun g _ hg=>by omega) G.out.1.size))
 have W1:Hid (WrI n (V.setCells (w.heap.size+1) 0 cs) w.heap.size (V.setCells (w.heap.size+1) 0 cs).heap.size ⟨sz, .slice x0.1 x0.2.1 x0.2.2, .slice x1.1 x1.2.1 x1.2.2, .slice x2.1 x2.2.1 x2.2.2, .slice x3.1 x3.2.1 x3.2.2, .slice x4.1 x4.2.1 x4.2.2⟩ ⟨f0,f1,D.cs,D.ds,D.ls⟩):=by
  have s0:=SB0.out
  have s1:=SB1.out
  have s2:=SB2.out
  have s3:=SB3.out
  have s4:=SB4.out
  have t1:=SC1.out
  have t2:=SC2.out
  have t3:=SC3.out
  have t4:=SC4.out
  have t5:=SC5.out
  have tt:=SZ0.out
  have gz:=GC.size
  have z0:=LsI.chg (BC n) O0.out GC (fun g g1 g2 e=>by omega)
  have z1:=LsI.chg (Ce n) O1.out GC (fun g g1 g2 e=>by omega)
  have z2:=LsI.chg Dj O2.out GC (fun g g1 g2 e=>by omega)
  have z3:=O3.out.chg GC (fun g g1 g2 e=>by omega)
  have z4:=LsI.chg Dj O4.out GC (fun g g1 g2 e=>by omega)
  refine⟨fun i=>match i with|0=>V0.heap.size|1=>V1.heap.size|2=>V2.heap.size|3=>V3.heap.size|_=>V4.heap.size,fun i=>match i with|0=>w1.heap.size|1=>w2.heap.size|2=>w3.heap.size|3=>w4.heap.size|_=>w5.heap.size, ?_, ?_,Nat.le_refl _,z0,z1,z2,z3,z4⟩
  ·intro i hi;rcases i with _|_|_|_|i<;>simp only<;>omega
  ·intro i j hi hj hij;rcases i with _|_|_|_|i<;>rcases j with _|_|_|_|j<;>simp only<;>omega
 have LKF:Hid (D.like ⟨f0,f1,D.cs,D.ds,D.ls⟩):=⟨K0.out,K1.out,rfl,rfl,rfl⟩
 have MV:Hid (Value.agg cs.toArray=(⟨sz, .slice x0.1 x0.2.1 x0.2.2, .slice x1.1 x1.2.1 x1.2.2, .slice x2.1 x2.2.1 x2.2.2, .slice x3.1 x3.2.1 x3.2.2, .slice x4.1 x4.2.1 x4.2.2⟩:WrV).val):=by rw[hcs];rfl
 clear hcs GC G O0 O1 O2 O3 O4 K0 K1 c0 SB0 SB1 SB2 SB3 SB4 SC1 SC2 SC3 SC4 SC5 SZ0;go_wp2_with (first|(refine wpList_load_mid rfl 37 _ rfl (w.heap.size+1+1) 0 rfl cs _ RG.out Tryz.underlying37 rfl HI.out ?_)|(refine wpList_store_mid rfl 37 _ _ rfl (w.heap.size+1) 0 cs.toArray rfl rfl TH.out HI.out ONE.out ?_))
 generalize V.setCells (w.heap.size+1) 0 cs=WF at *
 exact⟨rfl,_,results_cell_row Tryz.results8 _ WF (w.heap.size+1) 37 cs.toArray (0,0) _ rfl X1.out Tryz.underlying37 rfl HI.out,⟨_,_,by rw[MV.out],rfl,LKF.out,W1.out,BF.out⟩⟩
end
section
open Go.RowKit

theorem KL (n:Nat) (v:Value) (es:List BU) (k:Int) (w:World) (h:Cr AU (Dw (n+1)) w v (BE (n+1) k es)) (hk0:0<=k) (hk1:k+(AC (BL (n+1)) es es.length:Nat)<=67108864) :
  Calls Tryz.prog 51 #[v, .int .i64 k] w fun e w' =>e= .returned (.int .i64 (k+(AC (BL (n+1)) es es.length:Nat)))/\w' =w:=by
 have hl:(BE (n+1) k es).length=es.length:=by simp[BE]
 have hat:∀i,i<es.length->Dw (n+1) w (Fr (n+1) (k+(AC (BL (n+1)) es i:Nat)) (es.getD i Av)):=fun i hi=>h.2 _ (List.mem_map.2 ⟨i,List.mem_range.2 hi,rfl⟩)
 obtain⟨a,b,off,cap,rfl,hle,hmax,ha,hcell⟩:=h.parts (K:=15) (fun _=>rfl)
 rw[hl] at hle ha
 have HC:Hid (∀i,i<es.length->w.rangeAt b (off+i*15) (AU (Fr (n+1) (k+(AC (BL (n+1)) es i:Nat)) (es.getD i Av)))):=fun i hi=>by
  have:=hcell w (Below.refl _ _) i (by rw[hl];exact hi)
  simpa[BE] using this
 have MS:Hid (∀i,i<es.length->AC (BL (n+1)) es (i+1)=AC (BL (n+1)) es i+BL (n+1) (es.getD i Av)):=fun i hi=>DA _ Av es i hi
 have ML:Hid (∀i,i<=es.length->AC (BL (n+1)) es i<=AC (BL (n+1)) es es.length):=fun i hi=>EE _ Av es i _ hi (Nat.le_refl _)
 have M0:Hid (AC (BL (n+1)) es 0=0):=by show _=_;simp[AC]
 have HA:Hid _:=hat
 rw[hl]
 clear h hat hl hcell;generalize hE:(fun i=>es.getD i Av)=E at *
 have hE' :∀i,es.getD i Av=E i:=fun i=>by rw[←hE]
 simp only[hE'] at *
 clear hE hE';generalize hTOT:AC (BL (n+1)) es es.length=TOT at *
 generalize AC (BL (n+1)) es=fo at *
 unfold maxLen at hmax;have h63:(es.length:Int)<=9223372036854775807:=by omega
 generalize es.length=m at *
 have HAA:Hid (0<m->a=some ⟨b,off,none⟩):=ha
 clear ha hle hmax;go_enter Tryz.func51,Tryz.ntmps51
 go_wp2;go_loopw [1,5] (fun kk i wr=>∃j:Nat,j<=m/\i= .int .i64 j/\kk= .int .i64 (k+(fo j:Nat))/\wr=w) (fun _ i _=>m-(intOf i).toNat)
 case atStart=>exact⟨0,Nat.zero_le _,rfl,by rw[M0.out];simp,rfl⟩
 case round=>
  obtain⟨j,hj,rfl,rfl,rfl⟩:=hrel
  by_cases hlt:j<m
  ·have hal:=HAA.out (by omega)
   subst hal;have hms:=MS.out j hlt
   have hml:=ML.out (j+1) (by omega)
   have WT:=HA.out j hlt
   have RC:=HC.out j hlt
   clear HA HC ML M0;obtain⟨e,hej⟩:∃e,E j=e:=⟨_,rfl⟩
   obtain⟨a0,ha0⟩:∃x:Int,x=k+(fo j:Nat):=⟨_,rfl⟩
   rw[hej, ← ha0] at WT RC
   rw[hej] at hms
   have hT1:mkT (n+1) e.2.T=2*e.2.T.pairs.length+e.2.T.cuts.length+B6 n e.2.T.kids+3*e.2.T.buf.length:=CD n _
   have hK:BL (n+1) e=9+6*e.2.l.length+mkT (n+1) e.2.T+4*e.2.d.length:=rfl
   have g1:rk1 a0 e=a0+8+6*e.2.l.length:=rfl
   have g2:rk2 (n+1) a0 e=rk1 a0 e+1+(mkT (n+1) e.2.T:Nat):=rfl
   obtain⟨x1,h1⟩:∃x:Int,x=a0+1:=⟨_,rfl⟩
   obtain⟨x2,h2⟩:∃x:Int,x=a0+2:=⟨_,rfl⟩
   obtain⟨x3,h3⟩:∃x:Int,x=a0+3:=⟨_,rfl⟩
   obtain⟨x4,h4⟩:∃x:Int,x=a0+4:=⟨_,rfl⟩
   obtain⟨x5,h5⟩:∃x:Int,x=a0+5:=⟨_,rfl⟩
   obtain⟨x6,h6⟩:∃x:Int,x=a0+6:=⟨_,rfl⟩
   obtain⟨x7,h7⟩:∃x:Int,x=a0+7:=⟨_,rfl⟩
   obtain⟨x8,h8⟩:∃x:Int,x=a0+8:=⟨_,rfl⟩
   obtain⟨x9,h9⟩:∃x:Int,x=rk1 a0 e:=⟨_,rfl⟩
   obtain⟨x10,h10⟩:∃x:Int,x=rk1 a0 e+1:=⟨_,rfl⟩
   obtain⟨x11,h11⟩:∃x:Int,x=rk1 a0 e+1+2*(e.2.T.pairs.length:Int):=⟨_,rfl⟩
   obtain⟨x12,h12⟩:∃x:Int,x=rk1 a0 e+1+2*(e.2.T.pairs.length:Int)+e.2.T.cuts.length:=⟨_,rfl⟩
   obtain⟨x13,h13⟩:∃x:Int,x=rk1 a0 e+1+2*(e.2.T.pairs.length:Int)+e.2.T.cuts.length+(B6 n e.2.T.kids:Nat):=⟨_,rfl⟩
   obtain⟨x14,h14⟩:∃x:Int,x=rk2 (n+1) a0 e:=⟨_,rfl⟩
   obtain⟨x15,h15⟩:∃x:Int,x=rk2 (n+1) a0 e+4*(e.2.d.length:Int):=⟨_,rfl⟩
   have EN:Hid (k+(fo (j+1):Nat)=x15):=by show _=_;omega
   obtain⟨p1,⟨pt1,pd1⟩⟩:=WT
   obtain⟨-,t2,t3,t4,t5⟩:=pt1.parts
   have C0:Hid (Calls Tryz.prog 90 #[e.1.ev, .int .i64 x8] wr fun e' u' =>e' = .returned (.int .i64 x9)/\u' =wr):=by
    subst h15 h14 h13 h12 h11 h10 h9 h8 h7 h6 h5 h4 h3 h2 h1;have z:Row wr e.1.ev (Bh (a0+8) e.2.l.length).length (Af (Bh (a0+8) e.2.l.length)):=p1
    rw[Br] at z
    refine(Fw e.1.ev _ _ wr z (by omega) (by omega) (by omega)).mono ?_
    rintro e' u' ⟨y1,y2⟩
    exact⟨y1.trans (An (by omega)),y2⟩
   have C1:Hid (Calls Tryz.prog 91 #[e.1.s.x.p, .int .i64 x10] wr fun e' u' =>e' = .returned (.int .i64 x11)/\u' =wr):=by
    subst h15 h14 h13 h12 h11 h10 h9 h8 h7 h6 h5 h4 h3 h2 h1;have z:Row wr e.1.s.x.p (Bn (rk1 a0 e+1) e.2.T.pairs.length).length (AF (Bn (rk1 a0 e+1) e.2.T.pairs.length)):=t2
    rw[Be] at z
    refine(Em e.1.s.x.p _ _ wr z (by omega) (by omega) (by omega)).mono ?_
    rintro e' u' ⟨y1,y2⟩
    exact⟨y1.trans (An (by omega)),y2⟩
   have C2:Hid (Calls Tryz.prog 92 #[e.1.s.x.c, .int .i64 x11] wr fun e' u' =>e' = .returned (.int .i64 x12)/\u' =wr):=by
    subst h15 h14 h13 h12 h11 h10 h9 h8 h7 h6 h5 h4 h3 h2 h1;have z:Row wr e.1.s.x.c (AS (rk1 a0 e+1+2*(e.2.T.pairs.length:Int)) e.2.T.cuts.length).length (Am (AS (rk1 a0 e+1+2*(e.2.T.pairs.length:Int)) e.2.T.cuts.length)):=t3
    rw[AO] at z
    refine(Dz e.1.s.x.c _ _ wr z (by omega) (by omega) (by omega)).mono ?_
    rintro e' u' ⟨y1,y2⟩
    exact⟨y1.trans (An (by omega)),y2⟩
   have C3:Hid (Calls Tryz.prog 93 #[e.1.s.x.k, .int .i64 x12] wr fun e' u' =>e' = .returned (.int .i64 x13)/\u' =wr):=by
    subst h15 h14 h13 h12 h11 h10 h9 h8 h7 h6 h5 h4 h3 h2 h1;have z:BR n wr e.1.s.x.k (Cn n (rk1 a0 e+1+2*(e.2.T.pairs.length:Int)+e.2.T.cuts.length) e.2.T.kids):=t5
    refine(Fa n e.1.s.x.k e.2.T.kids _ wr z (by omega) (by omega)).mono ?_
    rintro e' u' ⟨y1,y2⟩
    exact⟨y1.trans (An (by omega)),y2⟩
   have C4:Hid (Calls Tryz.prog 94 #[e.1.s.x.b, .int .i64 x13] wr fun e' u' =>e' = .returned (.int .i64 x14)/\u' =wr):=by
    subst h15 h14 h13 h12 h11 h10 h9 h8 h7 h6 h5 h4 h3 h2 h1;have z:Row wr e.1.s.x.b (Bl (rk1 a0 e+1+2*(e.2.T.pairs.length:Int)+e.2.T.cuts.length+(B6 n e.2.T.kids:Nat)) e.2.T.buf.length).length (AW (Bl (rk1 a0 e+1+2*(e.2.T.pairs.length:Int)+e.2.T.cuts.length+(B6 n e.2.T.kids:Nat)) e.2.T.buf.length)):=t4
    rw[Bd] at z
    refine(DR e.1.s.x.b _ _ wr z (by omega) (by omega) (by omega)).mono ?_
    rintro e' u' ⟨y1,y2⟩
    exact⟨y1.trans (An (by omega)),y2⟩
   have C5:Hid (Calls Tryz.prog 53 #[e.1.s.v, .int .i64 x14] wr fun e' u' =>e' = .returned (.int .i64 x15)/\u' =wr):=by
    subst h15 h14 h13 h12 h11 h10 h9 h8 h7 h6 h5 h4 h3 h2 h1;have z:Row wr e.1.s.v (AG (rk2 (n+1) a0 e) e.2.d.length).length (Au (AG (rk2 (n+1) a0 e) e.2.d.length)):=pd1
    rw[A9] at z
    refine(DE e.1.s.v _ _ wr z (by omega) (by omega) (by omega)).mono ?_
    rintro e' u' ⟨y1,y2⟩
    exact⟨y1.trans (An (by omega)),y2⟩
   have CE:Hid (wr.cell? ⟨b,off+j*15,none⟩=some (.int .i64 a0)/\wr.cell? ⟨b,off+j*15+1,none⟩=some (.int .i64 x1)/\wr.cell? ⟨b,off+j*15+2,none⟩=some (.int .i64 x2)/\wr.cell? ⟨b,off+j*15+3,none⟩=some (.int .i64 x3)/\wr.cell? ⟨b,off+j*15+4,none⟩=some (.int .i64 x4)/\wr.cell? ⟨b,off+j*15+5,none⟩=some (.int .i64 x5)/\wr.cell? ⟨b,off+j*15+6,none⟩=some (.int .i64 x6)/\wr.cell? ⟨b,off+j*15+7,none⟩=some (.bool (x7%3==0))/\wr.cell? ⟨b,off+j*15+8,none⟩=some (e.1.ev)/\wr.cell? ⟨b,off+j*15+9,none⟩=some (.bool (x9%3==0))/\wr.cell? ⟨b,off+j*15+10,none⟩=some (e.1.s.x.p)/\wr.cell? ⟨b,off+j*15+11,none⟩=some (e.1.s.x.c)/\wr.cell? ⟨b,off+j*15+12,none⟩=some (e.1.s.x.k)/\wr.cell? ⟨b,off+j*15+13,none⟩=some (e.1.s.x.b)/\wr.cell? ⟨b,off+j*15+14,none⟩=some (e.1.s.v)):=by
    subst h15 h14 h13 h12 h11 h10 h9 h8 h7 h6 h5 h4 h3 h2 h1;exact⟨RC 0 _ rfl,RC 1 _ rfl,RC 2 _ rfl,RC 3 _ rfl,RC 4 _ rfl,RC 5 _ rfl,RC 6 _ rfl,RC 7 _ rfl,RC 8 _ rfl,RC 9 _ rfl,RC 10 _ rfl,RC 11 _ rfl,RC 12 _ rfl,RC 13 _ rfl,RC 14 _ rfl⟩
   have HB:Hid (0<=a0/\x15<=67108864):=⟨by omega,by omega⟩
   have CH:Hid (x1=a0+1/\x2=x1+1/\x3=x2+1/\x4=x3+1/\x5=x4+1/\x6=x5+1/\x7=x6+1/\x8=x7+1/\x8<=x9/\x10=x9+1/\x10<=x11/\x11<=x12/\x12<=x13/\x13<=x14/\x14<=x15):=⟨by omega,by omega,by omega,by omega,by omega,by omega,by omega,by omega,by omega,by omega,by omega,by omega,by omega,by omega,by omega⟩
   rw[←ha0]
   clear hT1 hK g1 g2 hms hml MS p1 pt1 pd1 t2 t3 t4 t5 RC;clear h15 h14 h13 h12 h11 h10 h9 h8 h7 h6 h5 h4 h3 h2 h1 ha0 hej;have d0:=CE.out.1
   have b0:0<=a0:=by have:=CH.out;have:=HB.out;omega
   have b1:a0<=67108864:=by have:=CH.out;have:=HB.out;omega
   go_upto_region 7 with fail
   rw[show a0+1=x1 by have:=CH.out;omega]
   clear d0 b0 b1;have d0:=CE.out.2.1
   have b0:0<=x1:=by have:=CH.out;have:=HB.out;omega
   have b1:x1<=67108864:=by have:=CH.out;have:=HB.out;omega
   go_upto_region 10 with fail
   rw[show x1+1=x2 by have:=CH.out;omega]
   clear d0 b0 b1;have d0:=CE.out.2.2.1
   have b0:0<=x2:=by have:=CH.out;have:=HB.out;omega
   have b1:x2<=67108864:=by have:=CH.out;have:=HB.out;omega
   go_upto_region 13 with fail
   rw[show x2+1=x3 by have:=CH.out;omega]
   clear d0 b0 b1;have d0:=CE.out.2.2.2.1
   have b0:0<=x3:=by have:=CH.out;have:=HB.out;omega
   have b1:x3<=67108864:=by have:=CH.out;have:=HB.out;omega
   go_upto_region 16 with fail
   rw[show x3+1=x4 by have:=CH.out;omega]
   clear d0 b0 b1;have d0:=CE.out.2.2.2.2.1
   have b0:0<=x4:=by have:=CH.out;have:=HB.out;omega
   have b1:x4<=67108864:=by have:=CH.out;have:=HB.out;omega
   go_upto_region 19 with fail
   rw[show x4+1=x5 by have:=CH.out;omega]
   clear d0 b0 b1;have d0:=CE.out.2.2.2.2.2.1
   have b0:0<=x5:=by have:=CH.out;have:=HB.out;omega
   have b1:x5<=67108864:=by have:=CH.out;have:=HB.out;omega
   go_upto_region 22 with fail
   rw[show x5+1=x6 by have:=CH.out;omega]
   clear d0 b0 b1;have d0:=CE.out.2.2.2.2.2.2.1
   have b0:0<=x6:=by have:=CH.out;have:=HB.out;omega
   have b1:x6<=67108864:=by have:=CH.out;have:=HB.out;omega
   go_upto_region 25 with fail
   rw[show x6+1=x7 by have:=CH.out;omega]
   clear d0 b0 b1;have d0:=CE.out.2.2.2.2.2.2.2.1
   have b0:0<=x7:=by have:=CH.out;have:=HB.out;omega
   have b1:x7<=67108864:=by have:=CH.out;have:=HB.out;omega
   have hne:(((x7%3==0)) != (x7%3==0))=false:=by simp
   go_upto_region 28 with fail
   rw[show x7+1=x8 by have:=CH.out;omega]
   clear d0 b0 b1 hne;have d0:=CE.out.2.2.2.2.2.2.2.2.1
   have b0:0<=x8:=by have:=CH.out;have:=HB.out;omega
   have b1:x8<=67108864:=by have:=CH.out;have:=HB.out;omega
   have b2:¬x9<0:=by have:=CH.out;have:=HB.out;omega
   go_wp2_with fail;refine C0.out.mono ?_
   rintro e1 w1 ⟨rfl,hw1⟩
   subst hw1;go_upto_region 31 with fail
   clear d0 b0 b1 b2 C0;have d0:=CE.out.2.2.2.2.2.2.2.2.2.1
   have b0:0<=x9:=by have:=CH.out;have:=HB.out;omega
   have b1:x9<=67108864:=by have:=CH.out;have:=HB.out;omega
   have hne:(((x9%3==0)) != (x9%3==0))=false:=by simp
   go_upto_region 34 with fail
   rw[show x9+1=x10 by have:=CH.out;omega]
   clear d0 b0 b1 hne;have d0:=CE.out.2.2.2.2.2.2.2.2.2.2.1
   have b0:0<=x10:=by have:=CH.out;have:=HB.out;omega
   have b1:x10<=67108864:=by have:=CH.out;have:=HB.out;omega
   have b2:¬x11<0:=by have:=CH.out;have:=HB.out;omega
   go_wp2_with fail;refine C1.out.mono ?_
   rintro e1 w1 ⟨rfl,hw1⟩
   subst hw1;go_upto_region 37 with fail
   clear d0 b0 b1 b2 C1;have d0:=CE.out.2.2.2.2.2.2.2.2.2.2.2.1
   have b0:0<=x11:=by have:=CH.out;have:=HB.out;omega
   have b1:x11<=67108864:=by have:=CH.out;have:=HB.out;omega
   have b2:¬x12<0:=by have:=CH.out;have:=HB.out;omega
   go_wp2_with fail;refine C2.out.mono ?_
   rintro e1 w1 ⟨rfl,hw1⟩
   subst hw1;go_upto_region 40 with fail
   clear d0 b0 b1 b2 C2;have d0:=CE.out.2.2.2.2.2.2.2.2.2.2.2.2.1
   have b0:0<=x12:=by have:=CH.out;have:=HB.out;omega
   have b1:x12<=67108864:=by have:=CH.out;have:=HB.out;omega
   have b2:¬x13<0:=by have:=CH.out;have:=HB.out;omega
   go_wp2_with fail;refine C3.out.mono ?_
   rintro e1 w1 ⟨rfl,hw1⟩
   subst hw1;go_upto_region 43 with fail
   clear d0 b0 b1 b2 C3;have d0:=CE.out.2.2.2.2.2.2.2.2.2.2.2.2.2.1
   have b0:0<=x13:=by have:=CH.out;have:=HB.out;omega
   have b1:x13<=67108864:=by have:=CH.out;have:=HB.out;omega
   have b2:¬x14<0:=by have:=CH.out;have:=HB.out;omega
   go_wp2_with fail;refine C4.out.mono ?_
   rintro e1 w1 ⟨rfl,hw1⟩
   subst hw1;go_upto_region 46 with fail
   clear d0 b0 b1 b2 C4;have d0:=CE.out.2.2.2.2.2.2.2.2.2.2.2.2.2.2
   have b0:0<=x14:=by have:=CH.out;have:=HB.out;omega
   have b1:x14<=67108864:=by have:=CH.out;have:=HB.out;omega
   have b2:¬x15<0:=by have:=CH.out;have:=HB.out;omega
   go_wp2_with fail;refine C5.out.mono ?_
   rintro e1 w1 ⟨rfl,hw1⟩
   subst hw1;go_wp2;go_roundw
   case rel=>exact⟨j+1,by omega,by go_num,by rw[EN.out],by trivial⟩
   case measure=>simp[intOf];omega
  ·have hjl:j=m:=by omega
   subst hjl;go_wp2;go_ret;exact⟨An (by rw[hTOT]),rfl⟩
end
end Go.Proofs.YtkcaelfkcepdkaaGreat
