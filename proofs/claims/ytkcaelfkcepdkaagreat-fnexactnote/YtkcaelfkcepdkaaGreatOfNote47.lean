/-
  The walk of the law FnExactNote.
-/
import Derived.Test.YtkcaelfkcepdkaaGreatOfNote40
import Derived.Test.YtkcaelfkcepdkaaGreatOfNote44
import Derived.Test.YtkcaelfkcepdkaaGreatOfNote45
import Derived.Test.YtkcaelfkcepdkaaGreatOfNote46
import Derived.Test.YtkcaelfkcepdkaaGreatOfNote31
namespace Go.Proofs.YtkcaelfkcepdkaaGreat
set_option maxRecDepth 100000
set_option maxHeartbeats 8000000
section
open Go.RowKit

theorem Ck.srcs2 {n:Nat} {w:World} {lo hi:Nat} {N:AL} {D:Nd} (h:Ck n w lo hi N D):∃F1 F2:Nat->Prop,Src true n w F1 N.s.x D.T1/\Src true n w F2 N.o.x D.T2:=by
 obtain⟨c1,c2,c3,c4,c5,c6,h1,h2,h3,h4,h5,h6,h7,o1,o2,o3,o4,o5,o6⟩:=h.d
 exact⟨_,_,Bt.src o2,Bt.src o6⟩
def Hk (n:Nat) (D:Wd) (DN:Nd):Prop:=D.small n/\DN.small n/\D.tot n+Nd.all n DN<=1048576
theorem IJ {ε :Type} (f: ε ->Nat) (x: ε):∀(es:List ε) (i:Nat),((es.set i x).map f).sum<=(es.map f).sum+f x
 |[],_=>by simp
 |e::es,0=>by simp only[List.set_cons_zero,List.map_cons,List.sum_cons];omega
 |e::es,i+1=>by have:=IJ f x es i;simp only[List.set_cons_succ,List.map_cons,List.sum_cons];omega
theorem Qe (n:Nat) (D:Wd) (i:Nat) (N:AL) (DN:Nd):(D.noted i N DN).tot n<=D.tot n+Nd.all n DN+2001:=by
 have a:=IJ (GD n) (N,DN) D.ns i
 have b:=Tg N.lb N.cm DN.l D.cs.length
 have c:(ntL N (D.ns.getD i Ap).1 D.ls.length).length<=1:=by unfold ntL;split<;>simp
 have d:GD n (N,DN)=Nd.all n DN:=rfl
 unfold Wd.tot Wd.noted
 simp only
 rw[Cy,Cy,Cy,List.length_append,List.length_append,List.length_set]
 omega
theorem Hk.x {n:Nat} {D E:Wd} {DN:Nd} (h:Hk n D DN) (k:D.like E):wK5 n 1 E<=9600000:=by
 rw[←Qr n 1 k]
 have:=MU n D
 have:=h.2.2
 omega
theorem Hk.g {n:Nat} {D E:Wd} {DN:Nd} {sz i:Int} {N:AL} (h:Hk n D DN) (k:(D.note sz i N DN).like E):wK5 n 1 E<=9600000:=by
 rw[←Qr n 1 k]
 have:=h.2.2
 unfold Wd.note
 split
 ·have:=MU n (D.noted i.toNat N DN)
  have:=Qe n D i.toNat N DN
  omega
 ·have:=MU n D
  omega
theorem Mf (n:Nat) (k:Int) (D:Nd):Jj n k D<=k+6*(Nd.all n D:Nat)/\(0<=k->0<=Jj n k D):=by
 have a:=Hm n D.T1
 have b:=Hm n D.T2
 unfold Jj Nd.all
 omega

theorem FO {P:Program} {w:World} (ty:TypeId) {o:Oper} (x:Operand) {ρ :Operand->Value} (ho:o.op= .load ty x) (b:Nat) (hx: ρ x= .pointer (some ⟨b,0,none⟩)) (cs:List Value) (d:TypeDesc) (hc:w.rangeAt b 0 cs) (hu:P.underlying ty=some d) (hd:d.isRow=true) (hi:(P.info? ty).map (·.size)=some cs.length):(execOp ρ o).run P w= .ok (.value (.agg cs.toArray)) w:=by
 unfold execOp;simp only[ho,hx,Instr.loadAt,Instr.sureAddr,Sem.run_bind,Sem.run_pure,Result.andThen_ok,run_loadVar_mid w b 0 ty cs d hc hu hd hi]

theorem Ig (n:Nat) (W:WrV) (D:Wd) (i:Int) (N:AL) (DN:Nd) (w:World) (h:CG (n+1) w W D) (hN:Bq (n+1) w N DN) (hlb:I64 N.lb) :
  Calls Tryz.prog 4 #[W.val, .int .i64 i,N.val] w fun e w' =>e= .returned (.bool true)/\Below w.heap.size w w' :=by
 have TT:=hq h
 have TN:=hq hN
 have SZ1:Hid (∀u,Below w.heap.size w u->Calls Tryz.prog 5 #[W.val, .int .i64 1048576] u fun e w' =>∃r:Int,e= .returned (.int .i64 r)/\r<=1048576/\(¬r<0->D.small (n+1)/\r+(D.tot (n+1):Nat)<=1048576)/\Below u.heap.size u w'):=fun u hu=>O9 (n+1) W D u (TT.out.below hu)
 have SZ2:Hid (∀u (r:Int),Below w.heap.size w u->¬r<0->r<=1048576->D.small (n+1)/\r+(D.tot (n+1):Nat)<=1048576->Calls Tryz.prog 16 #[N.val, .int .i64 r] u fun e w' =>∃q:Int,e= .returned (.int .i64 q)/\(¬q<0->Hk (n+1) D DN)/\Below u.heap.size u w'):=fun u r hu h0 h1 hd=>(Mt (n+1) N DN r u (TN.out.below hu) (by omega) h1).mono (fun e w' ⟨q,a,b,c,d⟩=>⟨q,a,fun hq0=>⟨hd.1,Nd.small_all (by have:=c hq0;omega),by have:=c hq0;have:=hd.2;omega⟩,d⟩)
 have TO1:Hid (∀u,Below w.heap.size w u->Hk (n+1) D DN->Calls Tryz.prog 8 #[W.val] u fun e w' =>∃V E,e= .returned V.val/\GF W D V E/\WrI (n+1) w' u.heap.size w'.heap.size V E/\Below u.heap.size u w'):=fun u hu hs=>(PZ (n+1) W D u (TT.out.below hu) hs.1).mono (fun e w' ⟨V,E,a,b,c,d⟩=>⟨V,E,a,⟨b,c⟩,d⟩)
 have TO2:Hid (∀u,Below w.heap.size w u->Hk (n+1) D DN->Calls Tryz.prog 18 #[N.val] u fun e w' =>∃M:AL,e= .returned M.val/\N.like M/\Ck (n+1) w' u.heap.size w'.heap.size M DN/\Below u.heap.size u w'):=fun u hu hs=>(H7 (n+1) N DN u (TN.out.below hu) hs.2.1).mono (fun e w' ⟨M,a,b,c,d⟩=>⟨M,a,b,c.h,d⟩)
 have LBM:∀M:AL,N.like M->I64 M.lb:=fun M hM=>by rw[←hM.2.2.2.1];exact hlb
 have LKG:∀(V:WrV) (E EK:Wd) (M:AL),GF W D V E->N.like M->(E.note V.sz i M DN).like EK->(D.note W.sz i N DN).like EK:=fun V E EK M hV hM h=>by
  rw[←hV.1] at h
  exact Wd.like.both ((Wd.note_lk hV.2 hM).sm) h
 have SP1:Hid (∀u V E lo hi M l1 l2,GF W D V E->N.like M->WrI (n+1) u lo hi V E->Ck (n+1) u l1 l2 M DN->Hk (n+1) D DN->Calls Tryz.prog 17 #[V.val, .int .i64 i,M.val] u fun e w' =>∃K EK F,e= .returned K.val/\GF W (D.note W.sz i N DN) K EK/\WrS (Fq (n+1)) (Fj (n+1)) w' F K EK/\(∀g,F g->u.heap.size<=g/\g<w'.heap.size)/\Below u.heap.size u w'):=fun u V E lo hi M l1 l2 hV hM hI hD hs=>
  (KI (n+1) V E lo hi u hI (hs.1.like hV.2) i M DN hD.at hs.2.1 (LBM M hM)).mono (fun e w' ⟨K,EK,F,a,b,c,d,f,g⟩=>⟨K,EK,F,a,⟨hV.1.trans b,LKG V E EK M hV hM c⟩,d,f,g⟩)
 have IP1:Hid (∀u V E lo hi M l1 l2,GF W D V E->N.like M->WrI (n+1) u lo hi V E->Ck (n+1) u l1 l2 M DN->Hk (n+1) D DN->Calls Tryz.prog 19 #[V.val, .int .i64 i,M.val] u fun e w' =>∃K EK F,e= .returned K.val/\GF W (D.note W.sz i N DN) K EK/\WrS (De (n+1)) (Dh (n+1)) w' F K EK/\(∀g,F g->u.heap.size<=g/\g<w'.heap.size)/\Below u.heap.size u w'):=fun u V E lo hi M l1 l2 hV hM hI hD hs=>by
  obtain⟨F1,F2,s1,s2⟩:=hD.srcs2
  exact(J9 (n+1) V E lo hi u hI (hs.1.like hV.2) i M DN F1 F2 hD.at hs.2.1 s1 s2 (LBM M hM)).mono (fun e w' ⟨K,EK,F,a,b,c,d,f,g⟩=>⟨K,EK,F,a,⟨hV.1.trans b,LKG V E EK M hV hM c⟩,d,f,g⟩)
 have EQ1:Hid (∀u K EK K' EK',GF W (D.note W.sz i N DN) K EK->GF W (D.note W.sz i N DN) K' EK' ->CG (n+1) u K EK->CG (n+1) u K' EK' ->Calls Tryz.prog 11 #[K.val,K'.val] u fun e w' =>e= .returned (.bool true)/\Below u.heap.size u w'):=fun u K EK K' EK' h1 h2 h3 h4=>JS _ K K' EK EK' u (h1.1.symm.trans h2.1) (h1.2.both h2.2) h3 h4
 have EQ2:Hid (∀u K EK K' EK',GF W D K EK->GF W D K' EK' ->CG (n+1) u K EK->CG (n+1) u K' EK' ->Calls Tryz.prog 11 #[K.val,K'.val] u fun e w' =>e= .returned (.bool true)/\Below u.heap.size u w'):=fun u K EK K' EK' h1 h2 h3 h4=>JS _ K K' EK EK' u (h1.1.symm.trans h2.1) (h1.2.both h2.2) h3 h4
 have EQ3:Hid (∀u M M',N.like M->N.like M' ->Bq (n+1) u M DN->Bq (n+1) u M' DN->Calls Tryz.prog 20 #[M.val,M'.val] u fun e w' =>e= .returned (.bool true)/\Below u.heap.size u w'):=fun u M M' h1 h2 h3 h4=>Is _ M M' DN u (h1.both h2) h3 h4
 have MK1:Hid (∀u V E lo hi,GF W D V E->WrI (n+1) u lo hi V E->Hk (n+1) D DN->Calls Tryz.prog 13 #[V.val, .int .i64 1] u fun e w' =>∃k:Int,e= .returned (.int .i64 k)/\(0<=k/\k<=9600000)/\Chg (fun g=>lo<=g/\g<hi) u w'):=fun u V E lo hi hV hI hs=>(Md n V E lo hi 1 u hI (by omega) (by have:=hs.x hV.2;omega)).mono (fun e w' ⟨a,_,c⟩=>⟨_,a,⟨Oe _ _,hs.x hV.2⟩,c⟩)
 have MK2:Hid (∀u M lo hi (k:Int),Ck (n+1) u lo hi M DN->Hk (n+1) D DN->0<=k->k<=9600000->Calls Tryz.prog 21 #[M.val, .int .i64 k] u fun e w' =>∃q:Int,e= .returned (.int .i64 q)/\0<=q/\Chg (fun g=>lo<=g/\g<hi) u w'):=fun u M lo hi k hm hs h0 h1=>(N6 (n+1) M DN lo hi k u hm h0 (by have:=(Mf (n+1) k DN).1;have:=hs.2.2;omega)).mono (fun e w' ⟨a,_,c⟩=>⟨_,a,(Mf (n+1) k DN).2 h0,c⟩)
 have MK3:Hid (∀u K EK (F:Nat->Prop),GF W (D.note W.sz i N DN) K EK->WrS (De (n+1)) (Dh (n+1)) u F K EK->(∀g,F g->g<u.heap.size)->Hk (n+1) D DN->Calls Tryz.prog 13 #[K.val, .int .i64 1] u fun e w' =>e= .returned (.int .i64 (wK5 (n+1) 1 EK))/\CG (n+1) w' K (wMk (n+1) 1 EK)/\Chg F u w'):=fun u K EK F hK hS hF hs=>(Ln n K EK F 1 u hS hF (by omega) (by have:=hs.g hK.2;omega)).mono (fun e w' ⟨a,b,c⟩=>⟨a,b.at (Ej _) (El _),c⟩)
 have HD1:Hid (∀u K EK,GF W (D.note W.sz i N DN) K EK->CG (n+1) u K (wMk (n+1) 1 EK)->Hk (n+1) D DN->Calls Tryz.prog 15 #[K.val, .int .i64 1] u fun e w' =>e= .returned (.int .i64 (wK5 (n+1) 1 EK))/\Below u.heap.size u w'):=fun u K EK hK hA hs=>Lt n K EK 1 u hA (by omega) (by have:=hs.g hK.2;omega)
 have KP:Hid (∀E,¬wK5 (n+1) 1 E<0):=fun E=>by have:=Oe (n+1) E;omega
 obtain⟨cs,csv,csl,cso⟩:=h.cells6
 obtain⟨ds,dsv,dsl,dso⟩:=hN.cells
 rw[csv] at SZ1 TO1 ⊢
 rw[dsv] at SZ2 TO2 ⊢
 clear LBM LKG hlb;generalize GF W (D.note W.sz i N DN)=LG at *
 generalize GF W D=LX at *
 generalize Hk (n+1) D DN=SMP at *
 generalize N.like=LN at *
 clear h hN TT TN;have B1:Hid (Below w.heap.size w ((w.alloc (.cells cs.toArray 28)).alloc (.cells ds.toArray 59))):=Below.and (Ae _ _) (Ae _ _)
 have HIL:Hid ((Tryz.prog.info? 28).map (·.size)=some cs.length):=by show _=_;rw[csl];exact(show(Tryz.prog.info? 28).map (·.size)=some 6 by kernel_rfl)
 have HIN:Hid ((Tryz.prog.info? 59).map (·.size)=some ds.length):=by show _=_;rw[dsl];exact(show(Tryz.prog.info? 59).map (·.size)=some 23 by kernel_rfl)
 have Y1:Hid (((w.alloc (.cells cs.toArray 28)).alloc (.cells ds.toArray 59)).heap[w.heap.size]? =some (.cells cs.toArray 28 (0,0))):=Ai.step (Ai.start 28 w _) (Ae _ _)
 have Y2:Hid (((w.alloc (.cells cs.toArray 28)).alloc (.cells ds.toArray 59)).heap[w.heap.size+1]? =some (.cells ds.toArray 59 (0,0))):=by have:=Ai.start 59 (w.alloc (.cells cs.toArray 28)) ds.toArray;simp only[World.size_alloc] at this;exact this
 have zw:w.heap.size+1<((w.alloc (.cells cs.toArray 28)).alloc (.cells ds.toArray 59)).heap.size:=by simp
 clear csv csl cso dsv dsl dso;go_enter Tryz.func4,Tryz.ntmps4
 go_upto_region 2 with fail
 generalize ((w.alloc (.cells cs.toArray 28)).alloc (.cells ds.toArray 59))=W0 at *
 have ra:=Ao Y1.out
 rw[List.toList_toArray] at ra
 go_wp2_with (refine AD (by rfl) 28 _ rfl w.heap.size 0 rfl cs _ ra Tryz.underlying28 rfl HIL.out ?_)
 refine(SZ1.out _ B1.out).mono ?_
 rintro e w1 ⟨r,rfl,hr1,hsm,b1⟩
 have SA:=hq hsm
 replace Y1:=hq (Ad Y1.out b1)
 replace Y2:=hq (Ad Y2.out b1)
 replace B1:=hq (Below.and B1.out b1)
 have z1:=b1.size
 clear b1 ra hsm SZ1;by_cases hr:r<0
 ·go_wp2;go_ret;exact⟨rfl,B1.out⟩
 have S2:=hq (SZ2.out w1 r B1.out (by omega) hr1 (SA.out (by omega)))
 clear SZ2 SA hr1;have ra:=Ao Y2.out
 rw[List.toList_toArray] at ra
 go_wp2_with (refine AD (by rfl) 59 _ rfl (w.heap.size+1) 0 rfl ds _ ra Tryz.underlying59 rfl HIN.out ?_)
 refine S2.out.mono ?_
 rintro e w1b ⟨q,rfl,hsm,b1⟩
 have SM:=hq hsm
 replace Y1:=hq (Ad Y1.out b1)
 replace Y2:=hq (Ad Y2.out b1)
 replace B1:=hq (Below.and B1.out b1)
 have z1b:=b1.size
 clear b1 hsm S2 hr ra;by_cases hr:q<0
 ·go_wp2;go_ret;exact⟨rfl,B1.out⟩
 replace SM:=hq (SM.out (by omega))
 go_upto_region 8 with fail
 go_cut [8] (fun s wx=>∃(X:Nat) (ws:List Value) (K:WrV) (EK:Wd),s= .pointer (some ⟨X,0,none⟩)/\Hid (Ai 37 wx X ws.toArray)/\Hid (K.val= .agg ws.toArray/\ws.length=6)/\Hid (LG K EK)/\Hid (CG (n+1) wx K EK)/\Hid (Below w1b.heap.size w1b wx/\w1b.heap.size<=X/\X<wx.heap.size))
 case first=>
  have Y1d:=Y1.out
  have Y2d:=Y2.out
  refine BA (fun u=>Ltp w1b.drew u) [_,_,_,_,_,_,_] _ rfl (by kernel_rfl) (by kernel_rfl) ?_
  refine J8 (w0:=w1b.drew) (Φ :=(fun k v x y u=>match k with
   |0=>v= .agg cs.toArray
   |1=>∃(V:WrV) (E:Wd),v=V.val/\LX V E/\WrI (n+1) u x y V E
   |2=>v= .int .i64 i
   |3=>v= .agg ds.toArray
   |4=>∃M:AL,v=M.val/\LN M/\Ck (n+1) u x y M DN
   |5=>∃(K:WrV) (EK:Wd),v=K.val/\LG K EK/\∃F,WrS (Fq (n+1)) (Fj (n+1)) u F K EK/\∀g,F g->x<=g/\g<y
   |6=>v= .pointer (some ⟨x,0,none⟩)/\x<y/\Ai 37 u x #[.int .i64 0, .slice none 0 0, .slice none 0 0, .slice none 0 0, .slice none 0 0, .slice none 0 0]
   |_=>True)) (N:=97) (by kernel_rfl) ?stab rfl ?step ?fin
  case stab=>
   intro k v x y u u' hp hl;rcases k with _|_|_|_|_|_|_|k
   ·exact hp
   ·obtain⟨V,E,e,a,b⟩:=hp
    exact⟨V,E,e,a,b.below hl⟩
   ·exact hp
   ·exact hp
   ·obtain⟨M,e,a,b⟩:=hp
    exact⟨M,e,a,b.below hl⟩
   ·obtain⟨K,EK,e,a,b⟩:=hp
    exact⟨K,EK,e,a,b.imp (fun F h=>⟨h.1.below (DO _) (DK _) hl,h.2⟩)⟩
   ·obtain⟨e,a,b⟩:=hp
    exact⟨e,a,b.step hl⟩
   ·trivial
  case step=>
   intro q o ho ρ v x y u hu hv hf hpw hz hc;have hu2:Below w1b.heap.size w1b u:=(Below.refl w1b.heap.size w1b).drew.trans hu
   have bw:Below w.heap.size w u:=Below.and B1.out hu2
   have hq8:q<7:=(List.getElem?_eq_some_iff.1 ho).1
   have r1:=Ao (Ad Y1d hu2)
   have r2:=Ao (Ad Y2d hu2)
   rw[List.toList_toArray] at r1 r2
   rcases q with _|_|_|_|_|_|_|q
   ·simp only[List.getElem?_cons_zero,Option.some.injEq] at ho
    subst ho;have e1: ρ (.tmp 3)= .pointer (some ⟨w.heap.size,0,none⟩):=(hz 3 (by kernel_rfl)).trans rfl
    exact AV.value (v:= .agg cs.toArray) (w' :=u) (FO 28 _ rfl w.heap.size e1 cs _ r1 Tryz.underlying28 rfl HIL.out) ⟨Ltp.refl _,rfl⟩
   ·simp only[List.getElem?_cons_succ,List.getElem?_cons_zero,Option.some.injEq] at ho
    subst ho;have e0:=(hv 0 26 (by decide) (by kernel_rfl) (by kernel_rfl) (by decide)).trans (hf 0 (by decide) (by kernel_rfl)).1
    refine AV.enter (f:=8) (args:= #[.agg cs.toArray]) (w' :=u) (by go_simp) ((TO1.out u bw SM.out).mono ?_)
    rintro e u2 ⟨V,E,rfl,a,b,c⟩
    exact⟨_,rfl,c,V,E,rfl,a,b⟩
   ·simp only[List.getElem?_cons_succ,List.getElem?_cons_zero,Option.some.injEq] at ho
    subst ho;have e1: ρ (.tmp 1)= .int .i64 i:=(hz 1 (by kernel_rfl)).trans rfl
    exact AV.value (v:= .int .i64 i) (w' :=u) (by go_simp) ⟨Ltp.refl _,rfl⟩
   ·simp only[List.getElem?_cons_succ,List.getElem?_cons_zero,Option.some.injEq] at ho
    subst ho;have e1: ρ (.tmp 5)= .pointer (some ⟨w.heap.size+1,0,none⟩):=(hz 5 (by kernel_rfl)).trans rfl
    exact AV.value (v:= .agg ds.toArray) (w' :=u) (FO 59 _ rfl (w.heap.size+1) e1 ds _ r2 Tryz.underlying59 rfl HIN.out) ⟨Ltp.refl _,rfl⟩
   ·simp only[List.getElem?_cons_succ,List.getElem?_cons_zero,Option.some.injEq] at ho
    subst ho;have e0:=(hv 3 29 (by decide) (by kernel_rfl) (by kernel_rfl) (by decide)).trans (hf 3 (by decide) (by kernel_rfl)).1
    refine AV.enter (f:=18) (args:= #[.agg ds.toArray]) (w' :=u) (by go_simp) ((TO2.out u bw SM.out).mono ?_)
    rintro e u2 ⟨M,rfl,a,b,c⟩
    exact⟨_,rfl,c,M,rfl,a,b⟩
   ·simp only[List.getElem?_cons_succ,List.getElem?_cons_zero,Option.some.injEq] at ho
    subst ho;obtain⟨⟨V,E,h1,l1,t1⟩, -⟩:=hf 1 (by decide) (by kernel_rfl)
    obtain⟨⟨M,h4,l4,t4⟩, -⟩:=hf 4 (by decide) (by kernel_rfl)
    have e1:=(hv 1 27 (by decide) (by kernel_rfl) (by kernel_rfl) (by decide)).trans h1
    have e2:=(hv 2 28 (by decide) (by kernel_rfl) (by kernel_rfl) (by decide)).trans (hf 2 (by decide) (by kernel_rfl)).1
    have e4:=(hv 4 30 (by decide) (by kernel_rfl) (by kernel_rfl) (by decide)).trans h4
    have CC:=SP1.out u V E _ _ M _ _ l1 l4 t1 t4 SM.out
    generalize V.val=vv at *
    generalize M.val=mv at *
    refine AV.enter (f:=17) (args:= #[vv, .int .i64 i,mv]) (w' :=u) (by go_simp) (CC.mono ?_)
    rintro e u2 ⟨K,EK,F,rfl,a,b,f,c⟩
    exact⟨_,rfl,c,K,EK,rfl,a,F,b,f⟩
   ·simp only[List.getElem?_cons_succ,List.getElem?_cons_zero,Option.some.injEq] at ho
    subst ho;exact AV.value (v:= .pointer (some ⟨u.heap.size,0,none⟩)) (w' :=u.alloc (.cells #[.int .i64 0, .slice none 0 0, .slice none 0 0, .slice none 0 0, .slice none 0 0, .slice none 0 0] 37)) (by go_simp) ⟨Ae _ _,rfl,by simp,Ai.start _ _ _⟩
   ·exact absurd hq8 (by omega)
  case fin=>
   intro v x y u hu ht hf;have h5:=hf 5 (by decide)
   have h6:=hf 6 (by decide)
   have t6:=ht.1 6 (by decide) rfl
   have t56:=hq (ht.2 5 6 (by decide) (by decide) rfl rfl (by decide))
   have x66:=hq h6.2.1
   show Oper.wp _ _ _ _ _ _
   simp only[Dm,Ef,List.getElem?_cons_zero,List.getElem?_cons_succ,Option.bind_some,if_true,List.length_cons,List.length_nil,Act.put,List.setIfInBounds_toArray,List.set_cons_zero,List.set_cons_succ]
   clear hf ht;refine h5.elim fun K h5=>h5.elim fun EK h5=> ?_
   have e5:=h5.1
   have e6:=h6.1
   have l5:=hq h5.2.1
   have r5:=hq h5.2.2
   have m6:=hq h6.2.2
   have t6:=hq t6
   clear h5 h6;rw[e5,e6]
   clear e5 e6;generalize x 6=X at *
   have hat:Hid (CG (n+1) u K EK):=by obtain⟨F,h,_⟩:=r5.out;exact h.at (Hd _) (Hh _)
   obtain⟨ws,wsv,wsl,wso⟩:=hat.out.cells6
   rw[wsv]
   have TH:Hid (u.there X 0 ws.toArray.size):=Ba m6.out (show 6=ws.toArray.size by rw[List.size_toArray,wsl])
   have HIW:Hid ((Tryz.prog.info? 37).map (·.size)=some ws.toArray.size):=by show _=_;rw[List.size_toArray,wsl];exact(show(Tryz.prog.info? 37).map (·.size)=some 6 by kernel_rfl)
   have FIN:Hid (Ai 37 (u.setCells X 0 ws) X ws.toArray/\CG (n+1) (u.setCells X 0 ws) K EK/\Below w1b.heap.size w1b (u.setCells X 0 ws)/\w1b.heap.size<=X/\X<(u.setCells X 0 ws).heap.size):=by
    have ch:Chg (fun g=>g=X) u (u.setCells X 0 ws):=Chg.setCells (F:=fun g=>g=X) (g:=X) (fun _=>rfl) ws 0 _ (Chg.refl _ _)
    have hu2:Below w1b.heap.size w1b u:=(Below.refl w1b.heap.size w1b).drew.trans hu
    have t1:w1b.heap.size<=X:=t6.out.1
    have hx:X<u.heap.size:=(Array.getElem?_eq_some_iff.1 m6.out).1
    exact⟨A7 m6.out ws (by rw[wsl];rfl),by obtain⟨F,h,hb⟩:=r5.out;exact(h.chg (DO _) (DK _) ch (fun g hg e=>by have:=hb g hg;have:=t56.out;have:=x66.out;omega)).at (Hd _) (Hh _),hu2.trans (ch.below (fun g _ e=>by omega) hu2.size),t1,by have:=ch.size;omega⟩
   have WV:=hq (And.intro wsv wsl)
   clear m6 t6 r5 hat wsv wsl;refine wp_store_mid 37 _ _ rfl X 0 ws.toArray rfl rfl TH.out HIW.out wso ?_
   rw[List.toList_toArray]
   generalize (u.setCells X 0 ws)=UF at *
   go_wp2_with fail;go_meet;exact⟨X,ws,K,EK,rfl,FIN.out.1,WV.out,l5.out,FIN.out.2.1,FIN.out.2.2⟩
 case rest=>
  obtain⟨Xw,ws,KW,EW,rfl,Xws,wsV0,LKKW,TWKW,BT⟩:=hcut
  have wsV:=hq wsV0.out.1
  have wsh:Hid ((Tryz.prog.info? 37).map (·.size)=some ws.length):=by show _=_;rw[wsV0.out.2];exact(show(Tryz.prog.info? 37).map (·.size)=some 6 by kernel_rfl)
  have zB:=BT.out.1.size
  have zX1:=BT.out.2.1
  have zX2:=BT.out.2.2
  clear wsV0;generalize HV4:wc=V4 at *
  clear HV4 SP1;replace Y1:=hq (Ad Y1.out BT.out.1)
  replace Y2:=hq (Ad Y2.out BT.out.1)
  replace B1:=hq (Below.and B1.out BT.out.1)
  clear BT;have TW:=TWKW
  have LKW:=LKKW
  have BV:Hid (Below V4.heap.size V4 V4):=Below.refl _ _
  clear TWKW LKKW;have ra:=Ao Y1.out
  rw[List.toList_toArray] at ra
  go_wp2_with (refine AD (by rfl) 28 _ rfl w.heap.size 0 rfl cs _ ra Tryz.underlying28 rfl HIL.out ?_)
  refine(TO1.out _ B1.out SM.out).mono ?_
  rintro e w5 ⟨MX,EX,rfl,lkx,tx,b5⟩
  replace Y1:=hq (Ad Y1.out b5)
  replace Y2:=hq (Ad Y2.out b5)
  replace B1:=hq (Below.and B1.out b5)
  replace BV:=hq (Below.and BV.out b5)
  replace Xws:=hq (Ad Xws.out b5)
  have z5:=b5.size
  have LKX:=hq lkx
  have XN:=hq tx
  clear b5 lkx ra;obtain⟨xs,xsv,xsl,xso⟩:=tx.at.cells6
  have xsh:Hid ((Tryz.prog.info? 37).map (·.size)=some xs.length):=by show _=_;rw[xsl];kernel_rfl
  have xsk:Hid ((Tryz.prog.info? 37).map (·.size)=some xs.toArray.size):=by show _=_;rw[List.size_toArray];exact xsh.out
  have NA:=Kd (w:=w5) (t:=37) (A:= #[.int .i64 0, .slice none 0 0, .slice none 0 0, .slice none 0 0, .slice none 0 0, .slice none 0 0]) (vs:=xs) xsl.symm
  have TH:Hid (World.there (w5.alloc (.cells #[.int .i64 0, .slice none 0 0, .slice none 0 0, .slice none 0 0, .slice none 0 0, .slice none 0 0] 37)) w5.heap.size 0 xs.toArray.size):=Ba (heap_alloc_new w5 _) (show 6=xs.toArray.size by rw[List.size_toArray,xsl])
  have SZxs:w5.heap.size+1<=((w5.alloc (.cells #[.int .i64 0, .slice none 0 0, .slice none 0 0, .slice none 0 0, .slice none 0 0, .slice none 0 0] 37)).setCells w5.heap.size 0 xs).heap.size:=by have:=(Chg.setCells (F:=fun _=>True) (g:=w5.heap.size) (fun _=>trivial) xs 0 _ (Chg.refl _ (w5.alloc (.cells #[.int .i64 0, .slice none 0 0, .slice none 0 0, .slice none 0 0, .slice none 0 0, .slice none 0 0] 37)))).size;simpa using this
  have Xxs:=hq NA.2
  have xsV:=hq xsv
  have NB:=hq NA.1
  replace Y1:=hq (Ad Y1.out NB.out)
  replace Y2:=hq (Ad Y2.out NB.out)
  replace B1:=hq (Below.and B1.out NB.out)
  replace BV:=hq (Below.and BV.out NB.out)
  replace Xws:=hq (Ad Xws.out NB.out)
  replace XN:=hq (XN.out.below NB.out)
  rw[xsv]
  clear NA xsv xsl;go_upto_region 10 with(refine wpList_store_mid rfl 37 _ _ rfl w5.heap.size 0 xs.toArray rfl rfl TH.out xsk.out xso ?_)
  clear TH xso xsk;generalize (w5.alloc (.cells #[.int .i64 0, .slice none 0 0, .slice none 0 0, .slice none 0 0, .slice none 0 0, .slice none 0 0] 37)).setCells w5.heap.size 0 xs=V6 at *
  clear tx NB;have ra:=Ao Y2.out
  rw[List.toList_toArray] at ra
  go_wp2_with (refine AD (by rfl) 59 _ rfl (w.heap.size+1) 0 rfl ds _ ra Tryz.underlying59 rfl HIN.out ?_)
  refine(TO2.out _ B1.out SM.out).mono ?_
  rintro e w6 ⟨MN,rfl,lkn,tn,b6⟩
  replace Y1:=hq (Ad Y1.out b6)
  replace Y2:=hq (Ad Y2.out b6)
  replace B1:=hq (Below.and B1.out b6)
  replace BV:=hq (Below.and BV.out b6)
  replace Xws:=hq (Ad Xws.out b6)
  replace XN:=hq (XN.out.below b6)
  replace Xxs:=hq (Ad Xxs.out b6)
  have z6:=b6.size
  have LKN:=hq lkn
  have XL:=hq tn
  clear b6 lkn ra;obtain⟨ms,msv,msl,mso⟩:=tn.at.cells
  have msh:Hid ((Tryz.prog.info? 73).map (·.size)=some ms.length):=by show _=_;rw[msl];kernel_rfl
  have msk:Hid ((Tryz.prog.info? 73).map (·.size)=some ms.toArray.size):=by show _=_;rw[List.size_toArray];exact msh.out
  have NA:=Kd (w:=w6) (t:=73) (A:= #[.int .i64 0, .int .i64 0, .int .i64 0, .int .i64 0, .int .i64 0, .slice none 0 0, .bool false, .slice none 0 0, .slice none 0 0, .slice none 0 0, .slice none 0 0, .slice none 0 0, .int .i64 0, .slice none 0 0, .slice none 0 0, .slice none 0 0, .int .i64 0, .bool false, .slice none 0 0, .slice none 0 0, .slice none 0 0, .slice none 0 0, .slice none 0 0]) (vs:=ms) msl.symm
  have TH:Hid (World.there (w6.alloc (.cells #[.int .i64 0, .int .i64 0, .int .i64 0, .int .i64 0, .int .i64 0, .slice none 0 0, .bool false, .slice none 0 0, .slice none 0 0, .slice none 0 0, .slice none 0 0, .slice none 0 0, .int .i64 0, .slice none 0 0, .slice none 0 0, .slice none 0 0, .int .i64 0, .bool false, .slice none 0 0, .slice none 0 0, .slice none 0 0, .slice none 0 0, .slice none 0 0] 73)) w6.heap.size 0 ms.toArray.size):=Ba (heap_alloc_new w6 _) (show 23=ms.toArray.size by rw[List.size_toArray,msl])
  have SZms:w6.heap.size+1<=((w6.alloc (.cells #[.int .i64 0, .int .i64 0, .int .i64 0, .int .i64 0, .int .i64 0, .slice none 0 0, .bool false, .slice none 0 0, .slice none 0 0, .slice none 0 0, .slice none 0 0, .slice none 0 0, .int .i64 0, .slice none 0 0, .slice none 0 0, .slice none 0 0, .int .i64 0, .bool false, .slice none 0 0, .slice none 0 0, .slice none 0 0, .slice none 0 0, .slice none 0 0] 73)).setCells w6.heap.size 0 ms).heap.size:=by have:=(Chg.setCells (F:=fun _=>True) (g:=w6.heap.size) (fun _=>trivial) ms 0 _ (Chg.refl _ (w6.alloc (.cells #[.int .i64 0, .int .i64 0, .int .i64 0, .int .i64 0, .int .i64 0, .slice none 0 0, .bool false, .slice none 0 0, .slice none 0 0, .slice none 0 0, .slice none 0 0, .slice none 0 0, .int .i64 0, .slice none 0 0, .slice none 0 0, .slice none 0 0, .int .i64 0, .bool false, .slice none 0 0, .slice none 0 0, .slice none 0 0, .slice none 0 0, .slice none 0 0] 73)))).size;simpa using this
  have Xms:=hq NA.2
  have msV:=hq msv
  have NB:=hq NA.1
  replace Y1:=hq (Ad Y1.out NB.out)
  replace Y2:=hq (Ad Y2.out NB.out)
  replace B1:=hq (Below.and B1.out NB.out)
  replace BV:=hq (Below.and BV.out NB.out)
  replace Xws:=hq (Ad Xws.out NB.out)
  replace XN:=hq (XN.out.below NB.out)
  replace Xxs:=hq (Ad Xxs.out NB.out)
  replace XL:=hq (XL.out.below NB.out)
  rw[msv]
  clear NA msv msl;go_upto_region 11 with(refine wpList_store_mid rfl 73 _ _ rfl w6.heap.size 0 ms.toArray rfl rfl TH.out msk.out mso ?_)
  clear TH mso msk;generalize (w6.alloc (.cells #[.int .i64 0, .int .i64 0, .int .i64 0, .int .i64 0, .int .i64 0, .slice none 0 0, .bool false, .slice none 0 0, .slice none 0 0, .slice none 0 0, .slice none 0 0, .slice none 0 0, .int .i64 0, .slice none 0 0, .slice none 0 0, .slice none 0 0, .int .i64 0, .bool false, .slice none 0 0, .slice none 0 0, .slice none 0 0, .slice none 0 0, .slice none 0 0] 73)).setCells w6.heap.size 0 ms=V7 at *
  clear tn NB;have rx:=Ao Xxs.out
  rw[List.toList_toArray] at rx
  have rm:=Ao Xms.out
  rw[List.toList_toArray] at rm
  have IP:Hid (Calls Tryz.prog 19 #[.agg xs.toArray, .int .i64 i, .agg ms.toArray] V7 fun e w' =>∃K EK F,e= .returned K.val/\LG K EK/\WrS (De (n+1)) (Dh (n+1)) w' F K EK/\(∀g,F g->V7.heap.size<=g/\g<w'.heap.size)/\Below V7.heap.size V7 w'):=by
   have:=IP1.out V7 MX EX _ _ MN _ _ LKX.out LKN.out XN.out XL.out SM.out
   rw[xsV.out,msV.out] at this
   exact this
  go_wp2_with (first|(refine AD (by rfl) 37 _ rfl w5.heap.size 0 rfl xs _ rx Tryz.underlying37 rfl xsh.out ?_)|(refine AD (by rfl) 73 _ rfl w6.heap.size 0 rfl ms _ rm Tryz.underlying73 rfl msh.out ?_))
  refine IP.out.mono ?_
  rintro e w7 ⟨KG,EG,F,rfl,lkg,tg,fb,b7⟩
  replace Y1:=hq (Ad Y1.out b7)
  replace Y2:=hq (Ad Y2.out b7)
  replace B1:=hq (Below.and B1.out b7)
  replace BV:=hq (Below.and BV.out b7)
  replace Xws:=hq (Ad Xws.out b7)
  replace XN:=hq (XN.out.below b7)
  replace Xxs:=hq (Ad Xxs.out b7)
  replace XL:=hq (XL.out.below b7)
  replace Xms:=hq (Ad Xms.out b7)
  have z7:=b7.size
  have LKG:=hq lkg
  have GN:=hq tg
  have FB:Hid (∀g,F g->V7.heap.size<=g/\g<w7.heap.size):=fb
  clear b7 lkg rx rm IP fb;obtain⟨gs,gsv,gsl,gso⟩:=(WrSU.at tg).cells6
  have gsh:Hid ((Tryz.prog.info? 37).map (·.size)=some gs.length):=by show _=_;rw[gsl];kernel_rfl
  have gsk:Hid ((Tryz.prog.info? 37).map (·.size)=some gs.toArray.size):=by show _=_;rw[List.size_toArray];exact gsh.out
  have NA:=Kd (w:=w7) (t:=37) (A:= #[.int .i64 0, .slice none 0 0, .slice none 0 0, .slice none 0 0, .slice none 0 0, .slice none 0 0]) (vs:=gs) gsl.symm
  have TH:Hid (World.there (w7.alloc (.cells #[.int .i64 0, .slice none 0 0, .slice none 0 0, .slice none 0 0, .slice none 0 0, .slice none 0 0] 37)) w7.heap.size 0 gs.toArray.size):=Ba (heap_alloc_new w7 _) (show 6=gs.toArray.size by rw[List.size_toArray,gsl])
  have SZgs:w7.heap.size+1<=((w7.alloc (.cells #[.int .i64 0, .slice none 0 0, .slice none 0 0, .slice none 0 0, .slice none 0 0, .slice none 0 0] 37)).setCells w7.heap.size 0 gs).heap.size:=by have:=(Chg.setCells (F:=fun _=>True) (g:=w7.heap.size) (fun _=>trivial) gs 0 _ (Chg.refl _ (w7.alloc (.cells #[.int .i64 0, .slice none 0 0, .slice none 0 0, .slice none 0 0, .slice none 0 0, .slice none 0 0] 37)))).size;simpa using this
  have Xgs:=hq NA.2
  have gsV:=hq gsv
  have NB:=hq NA.1
  replace Y1:=hq (Ad Y1.out NB.out)
  replace Y2:=hq (Ad Y2.out NB.out)
  replace B1:=hq (Below.and B1.out NB.out)
  replace BV:=hq (Below.and BV.out NB.out)
  replace Xws:=hq (Ad Xws.out NB.out)
  replace XN:=hq (XN.out.below NB.out)
  replace Xxs:=hq (Ad Xxs.out NB.out)
  replace XL:=hq (XL.out.below NB.out)
  replace Xms:=hq (Ad Xms.out NB.out)
  replace GN:=hq (GN.out.below (Bo _) (Bp _) NB.out)
  rw[gsv]
  clear NA gsv gsl;go_upto_region 12 with(refine wpList_store_mid rfl 37 _ _ rfl w7.heap.size 0 gs.toArray rfl rfl TH.out gsk.out gso ?_)
  clear TH gso gsk;generalize (w7.alloc (.cells #[.int .i64 0, .slice none 0 0, .slice none 0 0, .slice none 0 0, .slice none 0 0, .slice none 0 0] 37)).setCells w7.heap.size 0 gs=V8 at *
  clear tg NB;have rg:=Ao Xgs.out
  rw[List.toList_toArray] at rg
  have rw:=Ao Xws.out
  rw[List.toList_toArray] at rw
  have EQ:Hid (Calls Tryz.prog 11 #[.agg gs.toArray, .agg ws.toArray] V8 fun e w' =>e= .returned (.bool true)/\Below V8.heap.size V8 w'):=by
   have:=EQ1.out V8 KG EG KW EW LKG.out LKW.out (WrSU.at GN.out) (TW.out.below BV.out)
   rw[gsV.out,wsV.out] at this
   exact this
  go_wp2_with (first|(refine AD (by rfl) 37 _ rfl w7.heap.size 0 rfl gs _ rg Tryz.underlying37 rfl gsh.out ?_)|(refine AD (by rfl) 37 _ rfl Xw 0 rfl ws _ rw Tryz.underlying37 rfl wsh.out ?_))
  refine EQ.out.mono ?_
  rintro e w9 ⟨rfl,b9⟩
  replace Y1:=hq (Ad Y1.out b9)
  replace Y2:=hq (Ad Y2.out b9)
  replace B1:=hq (Below.and B1.out b9)
  replace BV:=hq (Below.and BV.out b9)
  replace Xws:=hq (Ad Xws.out b9)
  replace XN:=hq (XN.out.below b9)
  replace Xxs:=hq (Ad Xxs.out b9)
  replace XL:=hq (XL.out.below b9)
  replace Xms:=hq (Ad Xms.out b9)
  replace GN:=hq (GN.out.below (Bo _) (Bp _) b9)
  replace Xgs:=hq (Ad Xgs.out b9)
  have zb9:=b9.size
  clear b9 rg rw EQ;go_wp2_with fail;have KE:Hid (∀u,Below w9.heap.size w9 u->(fun u:World=>u.rangeAt w.heap.size 0 cs/\u.rangeAt w5.heap.size 0 xs) u):=fun u hu=>⟨by have:=Ao (Ad Y1.out hu);rw[List.toList_toArray] at this;exact this,by have:=Ao (Ad Xxs.out hu);rw[List.toList_toArray] at this;exact this⟩
  have RLL:Hid (Below w9.heap.size w9 w9.drew):=(Below.refl _ _).drew
  refine wp_region_held_drew (S:=(fun u:World=>u.rangeAt w.heap.size 0 cs/\u.rangeAt w5.heap.size 0 xs)) (by kernel_rfl) (KE.out _ RLL.out) (fun hH=> ?_)
  refine wpAnyH_take (i:=0) (oi:=⟨_,_,_,_,_,_⟩) (v:= .agg xs.toArray) rfl (by kernel_rfl) (by kernel_rfl) (by kernel_rfl) (fun _ _ _ h=>h) (yieldsIf_load_mid (by kernel_rfl) 37 _ rfl w5.heap.size 0 rfl xs _ (fun _ hu=>hu.2) Tryz.underlying37 rfl xsh.out) (by assumption) ?_
  try simp only[Act.put,List.setIfInBounds_toArray,List.set_cons_zero,List.set_cons_succ]
  refine wpAnyH_take (i:=1) (oi:=⟨_,_,_,_,_,_⟩) (v:= .agg cs.toArray) rfl (by kernel_rfl) (by kernel_rfl) (by kernel_rfl) (fun _ _ _ h=>h) (yieldsIf_load_mid (by kernel_rfl) 28 _ rfl (w.heap.size) 0 rfl cs _ (fun _ hu=>hu.1) Tryz.underlying28 rfl HIL.out) (by assumption) ?_
  try simp only[Act.put,List.setIfInBounds_toArray,List.set_cons_zero,List.set_cons_succ]
  refine wpAnyH_ready (rs:=[2]) (by kernel_rfl) (by simp) ?_
  refine AllReadyH.cons (o:=⟨_,_,_,_,_,_⟩) rfl (fun K hK=> ?_) AllReadyH.nil
  refine(if_pos (show Region.wanted _ _=true by kernel_rfl)).mpr ?_
  refine Bm 8 _ _ rfl Rm _ rfl (TO1.out _ (Below.and B1.out RLL.out) SM.out) ?_
  rintro e u2 ⟨M3,E3,rfl,l3,t3,b3⟩
  have T3:=hq t3.at
  have L3:=hq l3
  replace RLL:=hq (Below.and RLL.out b3)
  clear b3 t3 l3;refine⟨_,rfl, ?_⟩
  refine hK.out _ _ (KE.out _ RLL.out) (fun hH2=> ?_)
  clear hK K hH;have hH:=hH2
  clear hH2;try simp only[Act.put,List.setIfInBounds_toArray,List.set_cons_zero,List.set_cons_succ]
  have EQ:Hid (Calls Tryz.prog 11 #[.agg xs.toArray,M3.val] u2 fun e w' =>e= .returned (.bool true)/\Below u2.heap.size u2 w'):=by
   have:=EQ2.out u2 MX EX M3 E3 LKX.out L3.out (XN.out.below RLL.out).at T3.out
   rw[xsV.out] at this
   exact this
  refine wpAnyH_ready (rs:=[3]) (by kernel_rfl) (by simp) ?_
  refine AllReadyH.cons (o:=⟨_,_,_,_,_,_⟩) rfl (fun K hK=> ?_) AllReadyH.nil
  refine(if_pos (show Region.wanted _ _=true by kernel_rfl)).mpr ?_
  refine Bm 11 _ _ rfl RE _ rfl EQ.out ?_
  rintro e wa ⟨rfl,b4⟩
  replace RLL:=hq (Below.and RLL.out b4)
  clear b4;refine⟨_,rfl, ?_⟩
  refine hK.out _ _ (KE.out _ RLL.out) (fun hH2=> ?_)
  clear hK K hH;have hH:=hH2
  clear hH2;try simp only[Act.put,List.setIfInBounds_toArray,List.set_cons_zero,List.set_cons_succ]
  refine wpAnyH_take (i:=4) (oi:=⟨_,_,_,_,_,_⟩) (v:= ?_) rfl (by kernel_rfl) (by kernel_rfl) (by kernel_rfl) (fun _ _ _ h=>h) (Or.inl ⟨by rfl, ?_⟩) (by assumption) ?_
  rotate_left
  ·((intro w hSw;(try dsimp only at hSw);go_simp);(try with_reducible rfl))
  try simp only[Act.put,List.setIfInBounds_toArray,List.set_cons_zero,List.set_cons_succ]
  refine wpAnyH_done (by kernel_rfl) ?_ _
  have ba:=RLL.out
  replace Y1:=hq (Ad Y1.out ba)
  replace Y2:=hq (Ad Y2.out ba)
  replace B1:=hq (Below.and B1.out ba)
  replace BV:=hq (Below.and BV.out ba)
  replace Xws:=hq (Ad Xws.out ba)
  replace XN:=hq (XN.out.below ba)
  replace Xxs:=hq (Ad Xxs.out ba)
  replace XL:=hq (XL.out.below ba)
  replace Xms:=hq (Ad Xms.out ba)
  replace GN:=hq (GN.out.below (Bo _) (Bp _) ba)
  replace Xgs:=hq (Ad Xgs.out ba)
  have zba:=ba.size
  clear ba RLL KE hH EQ L3 T3;generalize M3.val=v3 at *
  clear M3;clear E3;go_wp2_with fail;have KE:Hid (∀u,Below wa.heap.size wa u->(fun u:World=>u.rangeAt (w.heap.size+1) 0 ds/\u.rangeAt w6.heap.size 0 ms) u):=fun u hu=>⟨by have:=Ao (Ad Y2.out hu);rw[List.toList_toArray] at this;exact this,by have:=Ao (Ad Xms.out hu);rw[List.toList_toArray] at this;exact this⟩
  have RLL:Hid (Below wa.heap.size wa wa.drew):=(Below.refl _ _).drew
  refine wp_region_held_drew (S:=(fun u:World=>u.rangeAt (w.heap.size+1) 0 ds/\u.rangeAt w6.heap.size 0 ms)) (by kernel_rfl) (KE.out _ RLL.out) (fun hH=> ?_)
  refine wpAnyH_take (i:=0) (oi:=⟨_,_,_,_,_,_⟩) (v:= .agg ms.toArray) rfl (by kernel_rfl) (by kernel_rfl) (by kernel_rfl) (fun _ _ _ h=>h) (yieldsIf_load_mid (by kernel_rfl) 73 _ rfl w6.heap.size 0 rfl ms _ (fun _ hu=>hu.2) Tryz.underlying73 rfl msh.out) (by assumption) ?_
  try simp only[Act.put,List.setIfInBounds_toArray,List.set_cons_zero,List.set_cons_succ]
  refine wpAnyH_take (i:=1) (oi:=⟨_,_,_,_,_,_⟩) (v:= .agg ds.toArray) rfl (by kernel_rfl) (by kernel_rfl) (by kernel_rfl) (fun _ _ _ h=>h) (yieldsIf_load_mid (by kernel_rfl) 59 _ rfl ((w.heap.size+1)) 0 rfl ds _ (fun _ hu=>hu.1) Tryz.underlying59 rfl HIN.out) (by assumption) ?_
  try simp only[Act.put,List.setIfInBounds_toArray,List.set_cons_zero,List.set_cons_succ]
  refine wpAnyH_ready (rs:=[2]) (by kernel_rfl) (by simp) ?_
  refine AllReadyH.cons (o:=⟨_,_,_,_,_,_⟩) rfl (fun K hK=> ?_) AllReadyH.nil
  refine(if_pos (show Region.wanted _ _=true by kernel_rfl)).mpr ?_
  refine Bm 18 _ _ rfl Sd _ rfl (TO2.out _ (Below.and B1.out RLL.out) SM.out) ?_
  rintro e u2 ⟨M3,rfl,l3,t3,b3⟩
  have T3:=hq t3.at
  have L3:=hq l3
  replace RLL:=hq (Below.and RLL.out b3)
  clear b3 t3 l3;refine⟨_,rfl, ?_⟩
  refine hK.out _ _ (KE.out _ RLL.out) (fun hH2=> ?_)
  clear hK K hH;have hH:=hH2
  clear hH2;try simp only[Act.put,List.setIfInBounds_toArray,List.set_cons_zero,List.set_cons_succ]
  have EQ:Hid (Calls Tryz.prog 20 #[.agg ms.toArray,M3.val] u2 fun e w' =>e= .returned (.bool true)/\Below u2.heap.size u2 w'):=by
   have:=EQ3.out u2 MN M3 LKN.out L3.out (XL.out.below RLL.out).at T3.out
   rw[msV.out] at this
   exact this
  refine wpAnyH_ready (rs:=[3]) (by kernel_rfl) (by simp) ?_
  refine AllReadyH.cons (o:=⟨_,_,_,_,_,_⟩) rfl (fun K hK=> ?_) AllReadyH.nil
  refine(if_pos (show Region.wanted _ _=true by kernel_rfl)).mpr ?_
  refine Bm 20 _ _ rfl R7 _ rfl EQ.out ?_
  rintro e wa3 ⟨rfl,b4⟩
  replace RLL:=hq (Below.and RLL.out b4)
  clear b4;refine⟨_,rfl, ?_⟩
  refine hK.out _ _ (KE.out _ RLL.out) (fun hH2=> ?_)
  clear hK K hH;have hH:=hH2
  clear hH2;try simp only[Act.put,List.setIfInBounds_toArray,List.set_cons_zero,List.set_cons_succ]
  refine wpAnyH_take (i:=4) (oi:=⟨_,_,_,_,_,_⟩) (v:= ?_) rfl (by kernel_rfl) (by kernel_rfl) (by kernel_rfl) (fun _ _ _ h=>h) (Or.inl ⟨by rfl, ?_⟩) (by assumption) ?_
  rotate_left
  ·((intro w hSw;(try dsimp only at hSw);go_simp);(try with_reducible rfl))
  try simp only[Act.put,List.setIfInBounds_toArray,List.set_cons_zero,List.set_cons_succ]
  refine wpAnyH_done (by kernel_rfl) ?_ _
  have ba3:=RLL.out
  replace Y1:=hq (Ad Y1.out ba3)
  replace Y2:=hq (Ad Y2.out ba3)
  replace B1:=hq (Below.and B1.out ba3)
  replace BV:=hq (Below.and BV.out ba3)
  replace Xws:=hq (Ad Xws.out ba3)
  replace XN:=hq (XN.out.below ba3)
  replace Xxs:=hq (Ad Xxs.out ba3)
  replace XL:=hq (XL.out.below ba3)
  replace Xms:=hq (Ad Xms.out ba3)
  replace GN:=hq (GN.out.below (Bo _) (Bp _) ba3)
  replace Xgs:=hq (Ad Xgs.out ba3)
  have zba3:=ba3.size
  clear ba3 RLL KE hH EQ L3 T3;generalize M3.val=v3 at *
  clear M3;have rx:=Ao Xxs.out
  rw[List.toList_toArray] at rx
  have MK:Hid (Calls Tryz.prog 13 #[.agg xs.toArray, .int .i64 1] wa3 fun e w' =>∃k:Int,e= .returned (.int .i64 k)/\(0<=k/\k<=9600000)/\Chg (fun g=>V4.heap.size<=g/\g<w5.heap.size) wa3 w'):=by
   have:=MK1.out wa3 MX EX _ _ LKX.out XN.out SM.out
   rw[xsV.out] at this
   exact this
  go_wp2_with (refine AD (by rfl) 37 _ rfl w5.heap.size 0 rfl xs _ rx Tryz.underlying37 rfl xsh.out ?_)
  refine MK.out.mono ?_
  rintro e wb ⟨k1,rfl,hk1,gb⟩
  clear XN rx MK;replace Y1:=hq (Al Y1.out gb (fun e=>by omega))
  replace Y2:=hq (Al Y2.out gb (fun e=>by omega))
  replace B1:=hq (B1.out.trans (gb.below (fun g _ e=>by omega) B1.out.size))
  replace BV:=hq (BV.out.trans (gb.below (fun g _ e=>by omega) BV.out.size))
  replace Xws:=hq (Al Xws.out gb (fun e=>by omega))
  replace Xxs:=hq (Al Xxs.out gb (fun e=>by omega))
  replace XL:=hq (XL.out.chg gb (fun g _ _ e=>by omega))
  replace Xms:=hq (Al Xms.out gb (fun e=>by omega))
  replace GN:=hq (GN.out.chg (Bo _) (Bp _) gb (fun g hg e=>by have:=FB.out g hg;omega))
  replace Xgs:=hq (Al Xgs.out gb (fun e=>by omega))
  have zb:=gb.size
  clear gb;have rm:=Ao Xms.out
  rw[List.toList_toArray] at rm
  have MK:Hid (Calls Tryz.prog 21 #[.agg ms.toArray, .int .i64 k1] wb fun e w' =>∃q:Int,e= .returned (.int .i64 q)/\0<=q/\Chg (fun g=>V6.heap.size<=g/\g<w6.heap.size) wb w'):=by
   have:=MK2.out wb MN _ _ k1 XL.out SM.out hk1.1 hk1.2
   rw[msV.out] at this
   exact this
  clear XL hk1;go_wp2_with (refine AD (by rfl) 73 _ rfl w6.heap.size 0 rfl ms _ rm Tryz.underlying73 rfl msh.out ?_)
  refine MK.out.mono ?_
  rintro e wb2 ⟨k2,rfl,hk2,gb⟩
  obtain⟨mn,rfl⟩:=Int.eq_ofNat_of_zero_le hk2
  clear MK hk2 rm;replace Y1:=hq (Al Y1.out gb (fun e=>by omega))
  replace Y2:=hq (Al Y2.out gb (fun e=>by omega))
  replace B1:=hq (B1.out.trans (gb.below (fun g _ e=>by omega) B1.out.size))
  replace BV:=hq (BV.out.trans (gb.below (fun g _ e=>by omega) BV.out.size))
  replace Xws:=hq (Al Xws.out gb (fun e=>by omega))
  replace Xxs:=hq (Al Xxs.out gb (fun e=>by omega))
  replace Xms:=hq (Al Xms.out gb (fun e=>by omega))
  replace GN:=hq (GN.out.chg (Bo _) (Bp _) gb (fun g hg e=>by have:=FB.out g hg;omega))
  replace Xgs:=hq (Al Xgs.out gb (fun e=>by omega))
  have zb2:=gb.size
  clear gb;have rg:=Ao Xgs.out
  rw[List.toList_toArray] at rg
  have rw:=Ao Xws.out
  rw[List.toList_toArray] at rw
  have EQ:Hid (Calls Tryz.prog 11 #[.agg gs.toArray, .agg ws.toArray] wb2 fun e w' =>e= .returned (.bool true)/\Below wb2.heap.size wb2 w'):=by
   have:=EQ1.out wb2 KG EG KW EW LKG.out LKW.out (WrSU.at GN.out) (TW.out.below BV.out)
   rw[gsV.out,wsV.out] at this
   exact this
  go_wp2_with (first|(refine AD (by rfl) 37 _ rfl w7.heap.size 0 rfl gs _ rg Tryz.underlying37 rfl gsh.out ?_)|(refine AD (by rfl) 37 _ rfl Xw 0 rfl ws _ rw Tryz.underlying37 rfl wsh.out ?_))
  refine EQ.out.mono ?_
  rintro e wc2 ⟨rfl,bc⟩
  replace Y1:=hq (Ad Y1.out bc)
  replace Y2:=hq (Ad Y2.out bc)
  replace B1:=hq (Below.and B1.out bc)
  replace BV:=hq (Below.and BV.out bc)
  replace Xws:=hq (Ad Xws.out bc)
  replace Xxs:=hq (Ad Xxs.out bc)
  replace Xms:=hq (Ad Xms.out bc)
  replace GN:=hq (GN.out.below (Bo _) (Bp _) bc)
  replace Xgs:=hq (Ad Xgs.out bc)
  have zbc:=bc.size
  clear bc rg rw EQ;have rg:=Ao Xgs.out
  rw[List.toList_toArray] at rg
  have MK:Hid (Calls Tryz.prog 13 #[.agg gs.toArray, .int .i64 1] wc2 fun e w' =>e= .returned (.int .i64 (wK5 (n+1) 1 EG))/\CG (n+1) w' KG (wMk (n+1) 1 EG)/\Chg F wc2 w'):=by
   have:=MK3.out wc2 KG EG F LKG.out GN.out (fun g hg=>by have:=FB.out g hg;omega) SM.out
   rw[gsV.out] at this
   exact this
  have HDG:Hid (∀u,CG (n+1) u KG (wMk (n+1) 1 EG)->Calls Tryz.prog 15 #[.agg gs.toArray, .int .i64 1] u fun e w' =>e= .returned (.int .i64 (wK5 (n+1) 1 EG))/\Below u.heap.size u w'):=fun u hu=>by
   have:=HD1.out u KG EG LKG.out hu SM.out
   rw[gsV.out] at this
   exact this
  have hmg:=KP.out EG
  generalize wK5 (n+1) 1 EG=mg at *
  generalize wMk (n+1) 1 EG=DM at *
  go_wp2_with (refine AD (by rfl) 37 _ rfl w7.heap.size 0 rfl gs _ rg Tryz.underlying37 rfl gsh.out ?_)
  refine MK.out.mono ?_
  rintro e wd ⟨rfl,gm,gd⟩
  clear GN rg MK;replace Y1:=hq (Al Y1.out gd (fun e=>by have:=FB.out _ e;omega))
  replace Y2:=hq (Al Y2.out gd (fun e=>by have:=FB.out _ e;omega))
  replace B1:=hq (B1.out.trans (gd.below (fun g _ e=>by have:=FB.out _ e;omega) B1.out.size))
  replace BV:=hq (BV.out.trans (gd.below (fun g _ e=>by have:=FB.out _ e;omega) BV.out.size))
  replace Xws:=hq (Al Xws.out gd (fun e=>by have:=FB.out _ e;omega))
  replace Xxs:=hq (Al Xxs.out gd (fun e=>by have:=FB.out _ e;omega))
  replace Xms:=hq (Al Xms.out gd (fun e=>by have:=FB.out _ e;omega))
  replace Xgs:=hq (Al Xgs.out gd (fun e=>by have:=FB.out _ e;omega))
  have zd:=gd.size
  have GM:=hq gm
  clear gd gm;have hmm:(mg != mg)=false:=by simp
  have rg:=Ao Xgs.out
  rw[List.toList_toArray] at rg
  have HE:=hq (HDG.out wd GM.out)
  go_wp2_with (refine AD (by rfl) 37 _ rfl w7.heap.size 0 rfl gs _ rg Tryz.underlying37 rfl gsh.out ?_)
  refine HE.out.mono ?_
  rintro e we ⟨rfl,be⟩
  replace Y1:=hq (Ad Y1.out be)
  replace Y2:=hq (Ad Y2.out be)
  replace B1:=hq (Below.and B1.out be)
  replace BV:=hq (Below.and BV.out be)
  replace Xws:=hq (Ad Xws.out be)
  replace Xxs:=hq (Ad Xxs.out be)
  replace Xms:=hq (Ad Xms.out be)
  replace Xgs:=hq (Ad Xgs.out be)
  replace GM:=hq (GM.out.below be)
  have zbe:=be.size
  clear be rg HE;go_upto_region 31 with fail
  go_cut [15] (fun s wx=>∃(X:Nat) (ws:List Value) (K:WrV) (EK:Wd),s= .pointer (some ⟨X,0,none⟩)/\Hid (Ai 37 wx X ws.toArray)/\Hid (K.val= .agg ws.toArray/\ws.length=6)/\Hid (LG K EK)/\Hid (CG (n+1) wx K EK)/\Hid (Below we.heap.size we wx/\we.heap.size<=X/\X<wx.heap.size))
  case first=>
   have Y1d:=Y1.out
   have Y2d:=Y2.out
   refine BA (fun u=>Ltp we.drew u) [_,_,_,_,_,_,_] _ rfl (by kernel_rfl) (by kernel_rfl) ?_
   refine J8 (w0:=we.drew) (Φ :=(fun k v x y u=>match k with
    |0=>v= .agg cs.toArray
    |1=>∃(V:WrV) (E:Wd),v=V.val/\LX V E/\WrI (n+1) u x y V E
    |2=>v= .int .i64 i
    |3=>v= .agg ds.toArray
    |4=>∃M:AL,v=M.val/\LN M/\Ck (n+1) u x y M DN
    |5=>∃(K:WrV) (EK:Wd),v=K.val/\LG K EK/\∃F,WrS (De (n+1)) (Dh (n+1)) u F K EK/\∀g,F g->x<=g/\g<y
    |6=>v= .pointer (some ⟨x,0,none⟩)/\x<y/\Ai 37 u x #[.int .i64 0, .slice none 0 0, .slice none 0 0, .slice none 0 0, .slice none 0 0, .slice none 0 0]
    |_=>True)) (N:=97) (by kernel_rfl) ?stab rfl ?step ?fin
   case stab=>
    intro k v x y u u' hp hl;rcases k with _|_|_|_|_|_|_|k
    ·exact hp
    ·obtain⟨V,E,e,a,b⟩:=hp
     exact⟨V,E,e,a,b.below hl⟩
    ·exact hp
    ·exact hp
    ·obtain⟨M,e,a,b⟩:=hp
     exact⟨M,e,a,b.below hl⟩
    ·obtain⟨K,EK,e,a,b⟩:=hp
     exact⟨K,EK,e,a,b.imp (fun F h=>⟨h.1.below (Bo _) (Bp _) hl,h.2⟩)⟩
    ·obtain⟨e,a,b⟩:=hp
     exact⟨e,a,b.step hl⟩
    ·trivial
   case step=>
    intro q o ho ρ v x y u hu hv hf hpw hz hc;have hu2:Below we.heap.size we u:=(Below.refl we.heap.size we).drew.trans hu
    have bw:Below w.heap.size w u:=Below.and B1.out hu2
    have hq8:q<7:=(List.getElem?_eq_some_iff.1 ho).1
    have r1:=Ao (Ad Y1d hu2)
    have r2:=Ao (Ad Y2d hu2)
    rw[List.toList_toArray] at r1 r2
    rcases q with _|_|_|_|_|_|_|q
    ·simp only[List.getElem?_cons_zero,Option.some.injEq] at ho
     subst ho;have e1: ρ (.tmp 3)= .pointer (some ⟨w.heap.size,0,none⟩):=(hz 3 (by kernel_rfl)).trans rfl
     exact AV.value (v:= .agg cs.toArray) (w' :=u) (FO 28 _ rfl w.heap.size e1 cs _ r1 Tryz.underlying28 rfl HIL.out) ⟨Ltp.refl _,rfl⟩
    ·simp only[List.getElem?_cons_succ,List.getElem?_cons_zero,Option.some.injEq] at ho
     subst ho;have e0:=(hv 0 79 (by decide) (by kernel_rfl) (by kernel_rfl) (by decide)).trans (hf 0 (by decide) (by kernel_rfl)).1
     refine AV.enter (f:=8) (args:= #[.agg cs.toArray]) (w' :=u) (by go_simp) ((TO1.out u bw SM.out).mono ?_)
     rintro e u2 ⟨V,E,rfl,a,b,c⟩
     exact⟨_,rfl,c,V,E,rfl,a,b⟩
    ·simp only[List.getElem?_cons_succ,List.getElem?_cons_zero,Option.some.injEq] at ho
     subst ho;have e1: ρ (.tmp 1)= .int .i64 i:=(hz 1 (by kernel_rfl)).trans rfl
     exact AV.value (v:= .int .i64 i) (w' :=u) (by go_simp) ⟨Ltp.refl _,rfl⟩
    ·simp only[List.getElem?_cons_succ,List.getElem?_cons_zero,Option.some.injEq] at ho
     subst ho;have e1: ρ (.tmp 5)= .pointer (some ⟨w.heap.size+1,0,none⟩):=(hz 5 (by kernel_rfl)).trans rfl
     exact AV.value (v:= .agg ds.toArray) (w' :=u) (FO 59 _ rfl (w.heap.size+1) e1 ds _ r2 Tryz.underlying59 rfl HIN.out) ⟨Ltp.refl _,rfl⟩
    ·simp only[List.getElem?_cons_succ,List.getElem?_cons_zero,Option.some.injEq] at ho
     subst ho;have e0:=(hv 3 82 (by decide) (by kernel_rfl) (by kernel_rfl) (by decide)).trans (hf 3 (by decide) (by kernel_rfl)).1
     refine AV.enter (f:=18) (args:= #[.agg ds.toArray]) (w' :=u) (by go_simp) ((TO2.out u bw SM.out).mono ?_)
     rintro e u2 ⟨M,rfl,a,b,c⟩
     exact⟨_,rfl,c,M,rfl,a,b⟩
    ·simp only[List.getElem?_cons_succ,List.getElem?_cons_zero,Option.some.injEq] at ho
     subst ho;obtain⟨⟨V,E,h1,l1,t1⟩, -⟩:=hf 1 (by decide) (by kernel_rfl)
     obtain⟨⟨M,h4,l4,t4⟩, -⟩:=hf 4 (by decide) (by kernel_rfl)
     have e1:=(hv 1 80 (by decide) (by kernel_rfl) (by kernel_rfl) (by decide)).trans h1
     have e2:=(hv 2 81 (by decide) (by kernel_rfl) (by kernel_rfl) (by decide)).trans (hf 2 (by decide) (by kernel_rfl)).1
     have e4:=(hv 4 83 (by decide) (by kernel_rfl) (by kernel_rfl) (by decide)).trans h4
     have CC:=IP1.out u V E _ _ M _ _ l1 l4 t1 t4 SM.out
     generalize V.val=vv at *
     generalize M.val=mv at *
     refine AV.enter (f:=19) (args:= #[vv, .int .i64 i,mv]) (w' :=u) (by go_simp) (CC.mono ?_)
     rintro e u2 ⟨K,EK,F,rfl,a,b,f,c⟩
     exact⟨_,rfl,c,K,EK,rfl,a,F,b,f⟩
    ·simp only[List.getElem?_cons_succ,List.getElem?_cons_zero,Option.some.injEq] at ho
     subst ho;exact AV.value (v:= .pointer (some ⟨u.heap.size,0,none⟩)) (w' :=u.alloc (.cells #[.int .i64 0, .slice none 0 0, .slice none 0 0, .slice none 0 0, .slice none 0 0, .slice none 0 0] 37)) (by go_simp) ⟨Ae _ _,rfl,by simp,Ai.start _ _ _⟩
    ·exact absurd hq8 (by omega)
   case fin=>
    intro v x y u hu ht hf;have h5:=hf 5 (by decide)
    have h6:=hf 6 (by decide)
    have t6:=ht.1 6 (by decide) rfl
    have t56:=hq (ht.2 5 6 (by decide) (by decide) rfl rfl (by decide))
    have x66:=hq h6.2.1
    show Oper.wp _ _ _ _ _ _
    simp only[Dm,Ef,List.getElem?_cons_zero,List.getElem?_cons_succ,Option.bind_some,if_true,List.length_cons,List.length_nil,Act.put,List.setIfInBounds_toArray,List.set_cons_zero,List.set_cons_succ]
    clear hf ht;refine h5.elim fun K h5=>h5.elim fun EK h5=> ?_
    have e5:=h5.1
    have e6:=h6.1
    have l5:=hq h5.2.1
    have r5:=hq h5.2.2
    have m6:=hq h6.2.2
    have t6:=hq t6
    clear h5 h6;rw[e5,e6]
    clear e5 e6;generalize x 6=X at *
    have hat:Hid (CG (n+1) u K EK):=by obtain⟨F,h,_⟩:=r5.out;exact h.at (Ej _) (El _)
    obtain⟨ws,wsv,wsl,wso⟩:=hat.out.cells6
    rw[wsv]
    have TH:Hid (u.there X 0 ws.toArray.size):=Ba m6.out (show 6=ws.toArray.size by rw[List.size_toArray,wsl])
    have HIW:Hid ((Tryz.prog.info? 37).map (·.size)=some ws.toArray.size):=by show _=_;rw[List.size_toArray,wsl];exact(show(Tryz.prog.info? 37).map (·.size)=some 6 by kernel_rfl)
    have FIN:Hid (Ai 37 (u.setCells X 0 ws) X ws.toArray/\CG (n+1) (u.setCells X 0 ws) K EK/\Below we.heap.size we (u.setCells X 0 ws)/\we.heap.size<=X/\X<(u.setCells X 0 ws).heap.size):=by
     have ch:Chg (fun g=>g=X) u (u.setCells X 0 ws):=Chg.setCells (F:=fun g=>g=X) (g:=X) (fun _=>rfl) ws 0 _ (Chg.refl _ _)
     have hu2:Below we.heap.size we u:=(Below.refl we.heap.size we).drew.trans hu
     have t1:we.heap.size<=X:=t6.out.1
     have hx:X<u.heap.size:=(Array.getElem?_eq_some_iff.1 m6.out).1
     exact⟨A7 m6.out ws (by rw[wsl];rfl),by obtain⟨F,h,hb⟩:=r5.out;exact(h.chg (Bo _) (Bp _) ch (fun g hg e=>by have:=hb g hg;have:=t56.out;have:=x66.out;omega)).at (Ej _) (El _),hu2.trans (ch.below (fun g _ e=>by omega) hu2.size),t1,by have:=ch.size;omega⟩
    have WV:=hq (And.intro wsv wsl)
    clear m6 t6 r5 hat wsv wsl;refine wp_store_mid 37 _ _ rfl X 0 ws.toArray rfl rfl TH.out HIW.out wso ?_
    rw[List.toList_toArray]
    generalize (u.setCells X 0 ws)=UF at *
    go_wp2_with fail;go_meet;exact⟨X,ws,K,EK,rfl,FIN.out.1,WV.out,l5.out,FIN.out.2.1,FIN.out.2.2⟩
  case rest=>
   obtain⟨Xh,hs,KH,EH,rfl,Xhs,hsV0,LKKH,TWKH,BT⟩:=hcut
   have hsV:=hq hsV0.out.1
   have hsh:Hid ((Tryz.prog.info? 37).map (·.size)=some hs.length):=by show _=_;rw[hsV0.out.2];exact(show(Tryz.prog.info? 37).map (·.size)=some 6 by kernel_rfl)
   have zB:=BT.out.1.size
   have zX1:=BT.out.2.1
   have zX2:=BT.out.2.2
   clear hsV0;replace Y1:=hq (Ad Y1.out BT.out.1)
   replace Y2:=hq (Ad Y2.out BT.out.1)
   replace B1:=hq (Below.and B1.out BT.out.1)
   replace BV:=hq (Below.and BV.out BT.out.1)
   replace Xws:=hq (Ad Xws.out BT.out.1)
   replace Xxs:=hq (Ad Xxs.out BT.out.1)
   replace Xms:=hq (Ad Xms.out BT.out.1)
   replace Xgs:=hq (Ad Xgs.out BT.out.1)
   replace GM:=hq (GM.out.below BT.out.1)
   have HN:=TWKH
   have LKH:=LKKH
   clear BT TWKH LKKH;have rg:=Ao Xhs.out
   rw[List.toList_toArray] at rg
   have rw:=Ao Xws.out
   rw[List.toList_toArray] at rw
   have EQ:Hid (Calls Tryz.prog 11 #[.agg hs.toArray, .agg ws.toArray] wc fun e w' =>e= .returned (.bool true)/\Below wc.heap.size wc w'):=by
    have:=EQ1.out wc KH EH KW EW LKH.out LKW.out HN.out (TW.out.below BV.out)
    rw[hsV.out,wsV.out] at this
    exact this
   go_wp2_with (first|(refine AD (by rfl) 37 _ rfl Xh 0 rfl hs _ rg Tryz.underlying37 rfl hsh.out ?_)|(refine AD (by rfl) 37 _ rfl Xw 0 rfl ws _ rw Tryz.underlying37 rfl wsh.out ?_))
   refine EQ.out.mono ?_
   rintro e wi ⟨rfl,bi⟩
   replace Y1:=hq (Ad Y1.out bi)
   replace Y2:=hq (Ad Y2.out bi)
   replace B1:=hq (Below.and B1.out bi)
   replace BV:=hq (Below.and BV.out bi)
   replace Xws:=hq (Ad Xws.out bi)
   replace Xxs:=hq (Ad Xxs.out bi)
   replace Xms:=hq (Ad Xms.out bi)
   replace Xgs:=hq (Ad Xgs.out bi)
   replace GM:=hq (GM.out.below bi)
   replace HN:=hq (HN.out.below bi)
   replace Xhs:=hq (Ad Xhs.out bi)
   have zbi:=bi.size
   clear bi rg rw EQ;have rg:=Ao Xgs.out
   rw[List.toList_toArray] at rg
   have HE:=hq (HDG.out wi GM.out)
   go_wp2_with (refine AD (by rfl) 37 _ rfl w7.heap.size 0 rfl gs _ rg Tryz.underlying37 rfl gsh.out ?_)
   refine HE.out.mono ?_
   rintro e wj ⟨rfl,bj⟩
   replace Y1:=hq (Ad Y1.out bj)
   replace Y2:=hq (Ad Y2.out bj)
   replace B1:=hq (Below.and B1.out bj)
   replace BV:=hq (Below.and BV.out bj)
   replace Xws:=hq (Ad Xws.out bj)
   replace Xxs:=hq (Ad Xxs.out bj)
   replace Xms:=hq (Ad Xms.out bj)
   replace Xgs:=hq (Ad Xgs.out bj)
   replace GM:=hq (GM.out.below bj)
   replace HN:=hq (HN.out.below bj)
   replace Xhs:=hq (Ad Xhs.out bj)
   have zbj:=bj.size
   clear bj rg HE;go_wp2;go_ret;exact⟨rfl,B1.out⟩
end
end Go.Proofs.YtkcaelfkcepdkaaGreat
