/-
  l4Give at all depths; the contract of the model's l4Root.
  The contract of the model's l4Drain.
  What the model's Inject and Drain make of a tree, as plain functions.
  Contracts of slices.Grow and slices.Concat at messages, and of the program's msgsOfKid.
  The library's Grow and Concat, over trees and over numbers: any number of parts.
-/
import Derived.Test.YtadmomgdacfgpaaGreatOfInjd23
import Derived.Test.YtadmomgdacfgpaaGreatOfInjd11
import Derived.Deep.LoopGhost
import Derived.Test.YtadmomgdacfgpaaGreatOfInjd19
import Derived.Test.YtadmomgdacfgpaaGreatOfInjd12
import Derived.Lib.Walk
import Derived.Lib.SliceRun
import Derived.Lib.AppendZerosOnto
import Derived.Test.YtadmomgdacfgpaaGreatOfInjd18
namespace Go.Proofs.YtadmomgdacfgpaaGreat
set_option maxRecDepth 100000
set_option maxHeartbeats 8000000
section
open Go.RowKit

theorem KJ:∀d,QX d
 |0=>fun _ _ _ _ _ _ _ _ h _ _=>h.elim
 |d+1=>by
  intro F x T vm ms w ht hm hs hp hn;rcases hs with⟨h1,rfl,h2,h3⟩|⟨h1,h0,h2,h3,h4,h5,h6⟩
  ·rw[Ac,if_pos h1]
   exact Tw 0 F x T vm ms w ht hm h1 (by omega)
  ·rw[Ac,if_neg (by rw[h1];simp)]
   refine T8 (KJ d) (VS (KJ d)) F x T vm ms w ht hm h1 ⟨h4,h6⟩ h2 ?_
   rw[wt,if_neg (by rw[h1];simp)] at hn
   exact hn

theorem Uu {f:Nat} {m:TM} (h:4<m.1.length) (hf:m.1.length<=f):Bt f m=Bt (f-1) (Cs m):=by
 cases f with
 |zero=>omega
 |succ f=>rw[Bt,if_pos h,Nat.add_sub_cancel]
theorem Uh {f:Nat} {m:TM} (h:m.1.length=1) (hf:m.1.length<=f):Bt f m=m.1.getD 0 Am:=by
 cases f with
 |zero=>omega
 |succ f=>rw[Bt,if_neg (by omega),if_pos h]
theorem SE {f:Nat} {m:TM} (h:¬4<m.1.length) (h1:¬m.1.length=1) (hp:0<m.1.length) (hf:m.1.length<=f):Bt f m=⟨false,[],m.2,m.1,[]⟩:=by
 cases f with
 |zero=>omega
 |succ f=>rw[Bt,if_neg h,if_neg h1]

theorem Qv (d:Nat) (F:Nat->Prop) (vt vc:Value) (m:TM) (w:World) (ht:Ah d w F vt m.1) (hc:An w F vc m.2.length (Ad m.2)) (hm:MOk d m) (hn:wtL d m.1<=1000000) :
  Calls Tryz.prog 38 #[.agg #[vt,vc]] w fun e w' =>∃(x:TV),e= .returned x.val/\Au (d+m.1.length) w' (fun b=>F b∨w.heap.size<=b) x (Bt m.1.length m)/\Below w.heap.size w w' :=by
 obtain⟨at0,qt0,hvt,_⟩:=(show Row w vt m.1.length _ from(ht.els.choose_spec.2).row).len
 obtain⟨ac0,qc0,hvc,_⟩:=hc.row.len
 subst hvt;subst hvc;have HT:Hid (Ah d w (fun b=>(F b/\b<w.heap.size)∨w.heap.size+2<=b) (.slice at0 m.1.length qt0) m.1):=ht.lt.mono (fun g hg=> .inl hg)
 have HC:Hid (An w (fun b=>(F b/\b<w.heap.size)∨w.heap.size+2<=b) (.slice ac0 m.2.length qc0) m.2.length (Ad m.2)):=(hc.lt (CF _).2).mono (fun g hg=> .inl hg)
 have HM:Hid (MOk d m):=hm
 have HN:=hid (hn)
 generalize hR:Bt m.1.length m=R
 have HR:=hid (hR)
 generalize hD:d+m.1.length=D
 have HD:Hid (d+m.1.length<=D):=Nat.le_of_eq hD
 clear ht hc hm hn hR;have B0:Hid (Below w.heap.size w ((w.alloc (.cells #[.slice at0 m.1.length qt0, .slice ac0 m.2.length qc0] 74)).alloc (.cells #[.bool false, .slice none 0 0, .slice none 0 0, .slice none 0 0, .slice none 0 0] 30))):=al2 _ _ _
 have X0:Hid (Ap ((w.alloc (.cells #[.slice at0 m.1.length qt0, .slice ac0 m.2.length qc0] 74)).alloc (.cells #[.bool false, .slice none 0 0, .slice none 0 0, .slice none 0 0, .slice none 0 0] 30)) w.heap.size #[.slice at0 m.1.length qt0, .slice ac0 m.2.length qc0]):=(Ap.start w _).alloc _
 have X1:Hid (Ar ((w.alloc (.cells #[.slice at0 m.1.length qt0, .slice ac0 m.2.length qc0] 74)).alloc (.cells #[.bool false, .slice none 0 0, .slice none 0 0, .slice none 0 0, .slice none 0 0] 30)) (w.heap.size+1) #[.bool false, .slice none 0 0, .slice none 0 0, .slice none 0 0, .slice none 0 0]):=by
  have:=Ar.start (w.alloc (.cells #[.slice at0 m.1.length qt0, .slice ac0 m.2.length qc0] 74)) #[.bool false, .slice none 0 0, .slice none 0 0, .slice none 0 0, .slice none 0 0]
  rw[World.size_alloc] at this
  exact this
 have Z0:Hid (w.heap.size+2<=((w.alloc (.cells #[.slice at0 m.1.length qt0, .slice ac0 m.2.length qc0] 74)).alloc (.cells #[.bool false, .slice none 0 0, .slice none 0 0, .slice none 0 0, .slice none 0 0] 30)).heap.size):=by show _<=_;simp
 generalize hn1:m.1.length=n1 at *
 generalize hn2:m.2.length=n2 at *
 go_enter Tryz.func38,Tryz.ntmps38
 go_wp2;refine Er (fun W=>Ap W w.heap.size #[.slice at0 n1 qt0, .slice ac0 n2 qc0]/\Ar W (w.heap.size+1) #[.bool false, .slice none 0 0, .slice none 0 0, .slice none 0 0, .slice none 0 0]/\Below w.heap.size w W/\w.heap.size+2<=W.heap.size) ⟨X0.out,X1.out,B0.out,Z0.out⟩ ?_
 rintro W ⟨Y0,Y1,YB,YZ⟩
 clear X0 X1 B0 Z0;go_loopg [] n1 (fun k wr=>∃(mm:TM) (d' f:Nat) (e1 e2:Option Addr) (p1 p2:Nat),k=mm.1.length/\Hid (Ap wr w.heap.size #[.slice e1 mm.1.length p1, .slice e2 mm.2.length p2])/\Hid (Ah d' wr (fun b=>(F b/\b<w.heap.size)∨w.heap.size+2<=b) (.slice e1 mm.1.length p1) mm.1)/\Hid (An wr (fun b=>(F b/\b<w.heap.size)∨w.heap.size+2<=b) (.slice e2 mm.2.length p2) mm.2.length (Ad mm.2))/\Hid (MOk d' mm)/\Hid (wtL d' mm.1<=1000000)/\Hid (Bt f mm=R)/\Hid (mm.1.length<=f)/\Hid (d' +mm.1.length<=D)/\Hid (Ar wr (w.heap.size+1) #[.bool false, .slice none 0 0, .slice none 0 0, .slice none 0 0, .slice none 0 0])/\Hid (Below w.heap.size w wr)/\Hid (w.heap.size+2<=wr.heap.size))
 case atStart=>exact⟨m,d,n1,at0,ac0,qt0,qc0,hn1.symm,by rw[hn1,hn2];exact Y0,by rw[hn1];exact HT.out.below YB,by rw[hn2];exact HC.out.below YB,HM,HN,HR,Nat.le_of_eq hn1,by rw[hn1];exact HD,Y1,YB,YZ⟩
 case round=>
  obtain⟨mm,d',f,e1,e2,p1,p2,rfl,BL,TM1,RM1,MO1,HW,HL,HF,HE,BR,BW,ZL⟩:=hrel
  clear Y0 Y1 YB YZ HT HC HM HN HR HD;have hmo:=MO1.out.1
  have hwl:=Bw MO1.out.2
  have hww:=HW.out
  obtain⟨x0,x1⟩:=BL.out.two
  by_cases h4:4<mm.1.length
  ·have h4' :(4:Int)<(mm.1.length:Int):=by omega
   have HP:Hid _:=K9 d' _ _ _ mm wr TM1.out RM1.out hmo (by omega) (by omega)
   have PO:=Gn MO1.out (by omega)
   have HL1:Hid (Bt (f-1) (Cs mm)=R):=by show _=_;rw[←Uu h4 HF.out];exact HL.out
   have NX:Hid (MOk (d' +1) (Cs mm)/\wtL (d' +1) (Cs mm).1<=1000000/\(Cs mm).1.length<=f-1/\d' +1+(Cs mm).1.length<=D/\(Cs mm).1.length<mm.1.length):=by
    have:=HF.out
    have:=HE.out
    exact⟨PO.1,by omega,by omega,by omega,by omega⟩
   clear PO;generalize Cs mm=PM at *
   clear TM1 RM1 MO1 HL hwl hww HW HF HE;go_wp2_with fail;refine Calls.mono HP.out ?_
   rintro e w1 ⟨v1,v2,rfl,TP,RP,hb1⟩
   obtain⟨az,qz,hu1,_⟩:=(show Row w1 v1 PM.1.length _ from(TP.els.choose_spec.2).row).len
   obtain⟨ay,qy,hu2,_⟩:=RP.row.len
   subst hu1;subst hu2;have BL1:Hid (Ap w1 w.heap.size #[.slice e1 mm.1.length p1, .slice e2 mm.2.length p2]):=BL.out.step hb1 BL.out.lt
   have FIN:Hid (∀v v',Ah (d' +1) (set2 w1 w.heap.size v v') (fun b=>(F b/\b<w.heap.size)∨w.heap.size+2<=b) (.slice az PM.1.length qz) PM.1/\An (set2 w1 w.heap.size v v') (fun b=>(F b/\b<w.heap.size)∨w.heap.size+2<=b) (.slice ay PM.2.length qy) PM.2.length (Ad PM.2)/\Ar (set2 w1 w.heap.size v v') (w.heap.size+1) #[.bool false, .slice none 0 0, .slice none 0 0, .slice none 0 0, .slice none 0 0]/\Below w.heap.size w (set2 w1 w.heap.size v v')/\w.heap.size+2<=(set2 w1 w.heap.size v v').heap.size):=fun v v' =>by
    have hz:=ZL.out
    have hc:=Dw w1 w.heap.size v v'
    have hbw:=BW.out.size
    have hb1s:=hb1.size
    have hk:∀g,((fun b=>(F b/\b<w.heap.size)∨w.heap.size+2<=b) g∨wr.heap.size<=g)->¬g=w.heap.size/\((F g/\g<w.heap.size)∨w.heap.size+2<=g):=fun g hg=>by
     rcases hg with(⟨h1,h2⟩|h)|h
     ·exact⟨by omega, .inl ⟨h1,h2⟩⟩
     ·exact⟨by omega, .inr (by omega)⟩
     ·exact⟨by omega, .inr (by omega)⟩
    refine⟨(TP.chg hc (fun g hg=>(hk g hg).1)).mono (fun g hg=>(hk g hg).2),(RP.chg hc (fun g hg=>(hk g hg).1)).mono (fun g hg=>(hk g hg).2),(BR.out.stepB hb1 (by omega)).chg hc (by omega),(Below.and BW.out hb1).trans (hc.below (fun g _ hg=>by omega) (by omega)), ?_⟩
    have:=hc.size
    omega
   obtain⟨m0,m1⟩:=BL1.out.two
   obtain⟨f0,f1⟩:=BL1.out.free
   clear TP RP hb1 HP x0 x1 BL BR BW ZL;generalize hq1:PM.1.length=l1 at *
   generalize hq2:PM.2.length=l2 at *
   go_wp2;go_roundg l1
   case measure=>exact NX.out.2.2.2.2
   case rel=>exact⟨PM,d' +1,f-1,az,ay,qz,qy,hq1.symm,by rw[hq1,hq2];exact BL1.out.set2 _ _,by rw[hq1];exact(FIN.out _ _).1,by rw[hq2];exact(FIN.out _ _).2.1,NX.out.1,NX.out.2.1,HL1,by rw[hq1];exact NX.out.2.2.1,by rw[hq1];exact NX.out.2.2.2.1,(FIN.out _ _).2.2.1,(FIN.out _ _).2.2.2.1,(FIN.out _ _).2.2.2.2⟩
  ·have h4' :¬(4:Int)<(mm.1.length:Int):=by omega
   obtain⟨⟨m0,m1,m2,m3,m4⟩,f0,f1,f2,f3,f4⟩:=Bu BR.out
   by_cases h1:mm.1.length=1
   ·have ER:R=mm.1.getD 0 Am:=HL.out.symm.trans (Uh h1 HF.out)
    obtain⟨xs0,hxl,hrow,hel⟩:=TM1.out
    obtain⟨av,b1,off1,c1,hvt,hcap1,hmax1,ha1,d0,d1,d2,d3,d4⟩:=hrow.row.trees
    have KD:Hid (Au d' wr (fun b=>(F b/\b<w.heap.size)∨w.heap.size+2<=b) (Ay xs0 0) (mm.1.getD 0 Am)):=hel 0 (by omega)
    have c0:=d0 0 (by omega)
    have c1' :=d1 0 (by omega)
    have c2:=d2 0 (by omega)
    have c3:=d3 0 (by omega)
    have c4:=d4 0 (by omega)
    have hav:=ha1 (by omega)
    subst hav;obtain⟨r1,r2,r3,r4,s1,s2,s3,s4,hy⟩:=KD.out.treeAt.shape
    rw[hy] at KD c0 c1' c2 c3 c4
    simp only[Nat.zero_mul,Nat.add_zero] at c0 c1' c2 c3 c4
    have hw1:((mm.1.length:Nat):Int)=1:=by omega
    have hv:(Value.slice e1 mm.1.length p1)= .slice (some ⟨b1,off1,none⟩) 1 c1:=by rw[hvt,hxl,h1]
    rw[hv] at BL x0
    have FIN:Hid (∀v0 v1 v2 v3 v4,Au D (set5 wr (w.heap.size+1) v0 v1 v2 v3 v4) (fun b=>F b∨w.heap.size<=b) (⟨(mm.1.getD 0 Am).leaf, .slice r1 (mm.1.getD 0 Am).pairs.length s1, .slice r2 (mm.1.getD 0 Am).cuts.length s2, .slice r3 (mm.1.getD 0 Am).kids.length s3, .slice r4 (mm.1.getD 0 Am).buf.length s4⟩:TV) R/\Below w.heap.size w (set5 wr (w.heap.size+1) v0 v1 v2 v3 v4)):=fun v0 v1 v2 v3 v4=>by
     have hc:=Bs wr (w.heap.size+1) v0 v1 v2 v3 v4
     have hz:=ZL.out
     have hbw:=BW.out.size
     have he:=HE.out
     rw[ER]
     exact⟨((KD.out.chg hc (fun g hg k=>by rcases hg with h|h<;>omega)).mono (fun g hg=>hg.elim (fun h=> .inl h.1) (fun h=> .inr (by omega)))).le (by omega),BW.out.trans (hc.below (fun g _ hg=>by omega) (by omega))⟩
    generalize (mm.1.getD 0 Am).leaf=z0 at *
    generalize (mm.1.getD 0 Am).pairs.length=z1 at *
    generalize (mm.1.getD 0 Am).cuts.length=z2 at *
    generalize (mm.1.getD 0 Am).kids.length=z3 at *
    generalize (mm.1.getD 0 Am).buf.length=z4 at *
    clear TM1 RM1 MO1 HL hwl hww HW HF HE BL BW ZL KD hrow hel d0 d1 d2 d3 d4 ha1 hvt hv hxl hy ER hmo;go_wp2;refine bodyPost_ret (v:= .agg #[.bool z0, .slice r1 z1 s1, .slice r2 z2 s2, .slice r3 z3 s3, .slice r4 z4 s4]) (by simp[results,Tryz.results38,go_sem,m0,m1,m2,m3,m4]) rfl ⟨⟨z0, .slice r1 z1 s1, .slice r2 z2 s2, .slice r3 z3 s3, .slice r4 z4 s4⟩,rfl,(FIN.out _ _ _ _ _).1,(FIN.out _ _ _ _ _).2⟩
   ·have ER:R=⟨false,[],mm.2,mm.1,[]⟩:=HL.out.symm.trans (SE h4 h1 (by omega) HF.out)
    have h1' :¬((mm.1.length:Nat):Int)=1:=by omega
    have FIN:Hid (∀v0 v1 v2 v3 v4,Au D (set5 wr (w.heap.size+1) v0 v1 v2 v3 v4) (fun b=>F b∨w.heap.size<=b) (⟨false, .slice none 0 0, .slice e2 mm.2.length p2, .slice e1 mm.1.length p1, .slice none 0 0⟩:TV) R/\Below w.heap.size w (set5 wr (w.heap.size+1) v0 v1 v2 v3 v4)):=fun v0 v1 v2 v3 v4=>by
     have hc:=Bs wr (w.heap.size+1) v0 v1 v2 v3 v4
     have hz:=ZL.out
     have hbw:=BW.out.size
     have he:=HE.out
     rw[ER]
     have hk:∀g,(F g/\g<w.heap.size)∨w.heap.size+2<=g->¬g=w.heap.size+1/\(F g∨w.heap.size<=g):=fun g hg=>by
      rcases hg with⟨h1,h2⟩|h
      ·exact⟨by omega, .inl h1⟩
      ·exact⟨by omega, .inr (by omega)⟩
     refine⟨Au.le (n:=d' +1) (Au.mk rfl (An.nil _ _) ((RM1.out.chg hc (fun g hg=>(hk g hg).1)).mono (fun g hg=>(hk g hg).2)) (An.nil _ _) ((TM1.out.chg hc (fun g hg=>(hk g hg).1)).mono (fun g hg=>(hk g hg).2))) (by omega),BW.out.trans (hc.below (fun g _ hg=>by omega) (by omega))⟩
    clear TM1 RM1 MO1 HL hwl hww HW HF HE BL BW ZL ER hmo;generalize mm.1.length=l1 at *
    generalize mm.2.length=l2 at *
    go_wp2;refine bodyPost_ret (v:= .agg #[.bool false, .slice none 0 0, .slice e2 l2 p2, .slice e1 l1 p1, .slice none 0 0]) (by simp[results,Tryz.results38,go_sem,m0,m1,m2,m3,m4]) rfl ⟨⟨false, .slice none 0 0, .slice e2 l2 p2, .slice e1 l1 p1, .slice none 0 0⟩,rfl,(FIN.out _ _ _ _ _).1,(FIN.out _ _ _ _ _).2⟩
end
section
open Go.RowKit
end
section
open Go.RowKit

def Cg (g:TM):Tr:=Bt g.1.length g
def Du (T:Tr) (m:Int × Int × Int):Tr:=
 if okT T=true/\AJ m.1 m.2.1 m.2.2=true/\¬m.1=4 then (if okT (Cg (Ac (Al T) T [m]))=true then Cg (Ac (Al T) T [m]) else T) else T
def Xb (T:Tr):Tr:=if okT T=true then (if okT (Cg (Qt (Al T) T))=true then Cg (Qt (Al T) T) else T) else T

theorem JI {T:Tr} (h:okT T=true):shT (Al T) T/\Al T<=7/\wt (Al T) T+2<=49152:=by
 have h0:Al T≠0:=by
  unfold okT at h;have:=of_decide_eq_true h
  omega
 have h1:shT (Al T) T:=Em h0
 have h2:Al T<=7:=Gq _ _ _ _
 refine⟨h1,h2,Nat.le_trans (Wd _ _ h1) ?_⟩
 have:4^Al T<=4^7:=Nat.pow_le_pow_right (by decide) h2
 omega

theorem IZ:∀(e:Nat) (T:Tr),shT e T->∀n,e<=n->AU n T=AU e T
 |0,_,h,_,_=>h.elim
 |e+1,T,h,n,hn=>by
  cases n with
  |zero=>omega
  |succ n=>
   have hk:T.kids.map (AU n)=T.kids.map (AU e):=by
    rcases h with⟨_,_,_,_,h,_⟩|⟨_,_,_,_,_,_,h⟩
    ·rw[h];rfl
    ·exact List.map_congr_left fun t ht=>IZ e t (h t ht) n (by omega)
   show T.pairs.length+(T.cuts.length+(T.kids.length+(T.kids.map (AU n)).sum+T.buf.length))=T.pairs.length+(T.cuts.length+(T.kids.length+(T.kids.map (AU e)).sum+T.buf.length))
   rw[hk]
theorem Rw {e:Nat} {T:Tr} (h:shT e T) {n:Nat} (hn:e<=n):AU n T<=7*wt e T:=by
 rw[IZ e T h n hn]
 have:=Rv e T h
 omega
theorem AD.down:∀ {e n:Nat} {w:World} {F:Nat->Prop} {x:TV} {T:Tr},shT e T->AD n w F x T->AD e w F x T
 |0,_,_,_,_,_,h,_=>h.elim
 |_+1,0,_,_,_,_,_,h=>h.elim
 |e+1,n+1,w,F,x,T,hs,⟨h1,h2,h3,h4,h5,xs,K,k1,k2,k3,k4,k5⟩=>by
  refine⟨h1,h2,h3,h4,h5,xs,K,k1,k2,fun i hi=> ?_,k4,k5⟩
  rcases hs with⟨_,_,_,_,h,_⟩|⟨_,_,_,_,_,_,h⟩
  ·rw[k1,h] at hi;exact absurd hi (Nat.not_lt_zero _)
  ·exact AD.down (h _ (BT (by omega))) (k3 i hi)

theorem Sk {d:Nat} {T:Tr} {ms:ML} (hs:shT d T) (hp:0<ms.length):∃e,e<=d+(Ac d T ms).1.length/\shT e (Cg (Ac d T ms))/\wt e (Cg (Ac d T ms))<=wt d T+ms.length:=by
 obtain⟨h1,h2⟩:=BE d T ms hs hp
 obtain⟨e,_,e2,e3,e4⟩:=LZ _ d (Ac d T ms) h1 (Nat.le_refl _)
 exact⟨e,e2,e3,Nat.le_trans e4 h2⟩
end
section
open Go.RowKit

theorem V9 {W:World} {R:Nat} {a b c:Value} (hR:W.heap[R]? =some (.cells #[a,b,c] 35 (0,0))):W.cell? ⟨R,0,none⟩=some a/\W.cell? ⟨R,1,none⟩=some b/\W.cell? ⟨R,2,none⟩=some c:=by
 have h:=fun j=>cell_of_row W R j _ 35 (0,0) hR
 exact⟨by rw[h];rfl,by rw[h];rfl,by rw[h];rfl⟩

open Go.Lib in
theorem Vq (n:Nat) (w:World) (hn:n<=8388608) :
  Calls Tryz.prog 108 #[.slice none 0 0, .int .i64 n] w fun e w' =>∃v',e= .returned v' ∧w'.ownsRow w.heap.size 35 3 v' 0 []/\Below w.heap.size w w' :=by
 obtain⟨i0,hi0,hz0,hz1,hz2⟩:=info_parts Tryz.info35
 rcases Nat.eq_zero_or_pos n with rfl|hp
 ·go_enter Tryz.func108,Tryz.ntmps108
  go_wp2;go_ret;exact⟨_,rfl,World.ownsRow_nil _ _ _ _,Below.refl _ _⟩
 ·have hrz:∀ty,(Builtin.append_ #[24,3] ty #[.slice none 0 0, .int .i64 (n:Int)]).run Tryz.prog w =
    .ok (.slice (some ⟨w.heap.size,0,none⟩) n (grownCap w n 0 35)) (w.drew.alloc (.cells (#[]++Builtin.zeroCells (Value.agg #[.int .i64 0, .int .i64 0, .int .i64 0]).cells n++Builtin.zeroCells (Value.agg #[.int .i64 0, .int .i64 0, .int .i64 0]).cells (grownCap w n 0 35-n)) 35)):=fun ty=>by
   have h:=Lib.run_append_grow_zeros w 24 3 ty 35 i0 _ .i64 .i64 Tryz.underlying24 Tryz.underlying3 hi0 hz0 none 0 0 [] (run_firstCells_none w.drew i0.size 0 0 0) n hp (by rw[hz1];decide) (by omega) (by omega)
    (by rw[hz2];omega)
    (by rw[Nat.zero_add,hz2];exact growslice_fits hp (by omega))
   rw[Nat.zero_add] at h
   exact h
  have HRZ:Hid _:=hrz
  have hGn:n<=grownCap w n 0 35:=grownCap_ge w _ _ _
  have hG63:=grownCap_le_maxLen w n 0 35 (by unfold maxLen;omega)
  generalize grownCap w n 0 35=G at *
  have hb1:(0:Int)<(n:Int):=by omega
  have hb2:¬((n:Int)<0):=by omega
  have hgm:G<=9223372036854775807:=by
   have:=hG63
   unfold maxLen at this;omega
  have OW:Hid ((w.alloc (.cells (Builtin.zeroCells #[.int .i64 0, .int .i64 0, .int .i64 0] n++Builtin.zeroCells #[.int .i64 0, .int .i64 0, .int .i64 0] (G-n)) 35)).drew.ownsRow w.heap.size 35 3 (.slice (some ⟨w.heap.size,0,none⟩) 0 G) 0 []):=
   ⟨by simp, .inr ⟨w.heap.size,G,_,rfl,Nat.le_refl _,heap_alloc_new w _,Nat.zero_le _,hG63,by
    simp only[Array.size_append,size_zeroCells]
    show n*3+(G-n)*3=G*3
    omega,by simp⟩⟩
  clear hrz hG63;go_enter Tryz.func108,Tryz.ntmps108
  go_wp2_with (at_builtin;refine Lib.wpList_append_run _ rfl _ _ _ _ rfl _ _ rfl rfl _ _ (HRZ.out _) ?_)
  all_goals
   go_ret;exact⟨_,rfl,OW.out,((Below.refl _ _).alloc (Nat.le_refl _) _).drew⟩

theorem Lh (b:Nat) (v1 v2:Value) (l1 l2:ML) (w:World) (hb:w.heap[b]? =some (.cells #[v1,v2] 24 (0,0))) (h1:Row w v1 l1.length (Af l1)) (h2:Row w v2 l2.length (Af l2)) (hn:l1.length+l2.length<=2097152) :
  Calls Tryz.prog 74 #[.slice (some ⟨b,0,none⟩) 2 2] w fun e w' =>∃v',e= .returned v' ∧w'.ownsRow w.heap.size 35 3 v' (l1++l2).length (Af (l1++l2))/\Below w.heap.size w w' :=by
 obtain⟨i0,hi0,hz0,hz1,hz2⟩:=info_parts Tryz.info35
 obtain⟨a1,q1,rfl,_⟩:=h1.len
 obtain⟨a2,q2,rfl,_⟩:=h2.len
 have c0:w.cell? ⟨b,0,none⟩=some (.slice a1 l1.length q1):=by rw[cell_of_row w b 0 _ 24 (0,0) hb];rfl
 have c1:w.cell? ⟨b,1,none⟩=some (.slice a2 l2.length q2):=by rw[cell_of_row w b 1 _ 24 (0,0) hb];rfl
 have R1:Hid (Row w (.slice a1 l1.length q1) l1.length (Af l1)):=h1
 have R2:Hid (Row w (.slice a2 l2.length q2) l2.length (Af l2)):=h2
 have C0:Hid _:=c0
 have C1:Hid _:=c1
 clear h1 h2 hb;go_enter Tryz.func74,Tryz.ntmps74
 go_wp2;go_loopw [3,11] (fun sz i wr=>w=wr/\((i= .int .i64 0/\sz= .int .i64 0)∨(i= .int .i64 1/\sz= .int .i64 l1.length)∨(i= .int .i64 2/\sz= .int .i64 (l1.length+l2.length)))) (fun _ i _=>2-(intOf i).toNat)
 case atStart=>exact⟨rfl, .inl ⟨rfl,rfl⟩⟩
 case round=>
  obtain⟨rfl,hh⟩:=hrel
  rcases hh with⟨rfl,rfl⟩|⟨rfl,rfl⟩|⟨rfl,rfl⟩
  ·have hp:¬((l1.length:Int)<0):=by omega
   go_wp2;go_roundw
   case rel=>exact⟨trivial, .inr (.inl ⟨by go_num,by go_num⟩)⟩
   case measure=>simp[intOf]
  ·have hp:¬((l1.length:Int)+(l2.length:Int)<0):=by omega
   go_wp2;go_roundw
   case rel=>exact⟨trivial, .inr (.inr ⟨by go_num,by go_num⟩)⟩
   case measure=>simp[intOf]
  ·have hcast:((l1.length:Int)+(l2.length:Int))=((l1.length+l2.length:Nat):Int):=by omega
   have GA:Hid (Calls Tryz.prog 108 #[.slice none 0 0, .int .i64 ((l1.length:Int)+(l2.length:Int))] w fun e w' =>∃v',e= .returned v' ∧w'.ownsRow w.heap.size 35 3 v' 0 []/\Below w.heap.size w w'):=by
    rw[hcast]
    exact Vq (l1.length+l2.length) w (by omega)
   clear hcast;go_wp2_with fail;refine Calls.mono GA.out ?_
   rintro e w2 ⟨v2,rfl,o2,hb2⟩
   have O2:Hid (w2.ownsRow w.heap.size 35 3 v2 ([]:ML).length (Af [])):=o2
   have B2:Hid (Below w.heap.size w w2):=hb2
   clear o2 hb2 c0 c1;go_wp2;go_loopw [6,27] (fun out i wr=>Hid (Below w.heap.size w wr)/\((i= .int .i64 0/\Hid (wr.ownsRow w.heap.size 35 3 out ([]:ML).length (Af [])))∨(i= .int .i64 1/\Hid (wr.ownsRow w.heap.size 35 3 out l1.length (Af l1)))∨(i= .int .i64 2/\Hid (wr.ownsRow w.heap.size 35 3 out (l1++l2).length (Af (l1++l2)))))) (fun _ i _=>2-(intOf i).toNat)
   case atStart=>exact⟨B2, .inl ⟨rfl,O2⟩⟩
   case round=>
    obtain⟨BQ,hh⟩:=hrel
    clear O2 B2;rcases hh with⟨rfl,OQ⟩|⟨rfl,OQ⟩|⟨rfl,OQ⟩
    ·have d0:=Ab BQ.out (Aa C0.out) C0.out
     have RR:Hid _:=R1.out.below BQ.out
     have OW:=OQ.out
     have HR:Hid (0+l1.length<=maxLen/\(0+l1.length)*24<=140737488355328):=⟨by unfold maxLen;omega,by omega⟩
     have H1:Hid _:=Fq l1
     have HL:Hid _:=Dj l1
     have hbs:w.heap.size<=wr.heap.size:=BQ.out.size
     go_wp2_with (at_builtin;refine Fj wr rfl _ _ 24 rfl w.heap.size 35 i0 _ 3 24 Tryz.underlying24 hi0 hz0 hz1 hz2 rfl (by decide) u6 0 [] rfl OW (.slice a1 l1.length q1) l1.length (Af l1) rfl RR.out HL.out H1.out HR.out.1 HR.out.2 hbs ?_)
     intro v5 w5 o5 _ b5;have FIN:Hid (w5.ownsRow w.heap.size 35 3 v5 l1.length (Af l1)/\Below w.heap.size w w5):=⟨o5,BQ.out.trans b5⟩
     clear o5 b5 OW d0;go_wp2;go_roundw
     case rel=>exact⟨FIN.out.2, .inr (.inl ⟨by go_num,FIN.out.1⟩)⟩
     case measure=>simp[intOf]
    ·have d0:=Ab BQ.out (Aa C1.out) C1.out
     have RR:Hid _:=R2.out.below BQ.out
     have OW:=OQ.out
     have HR:Hid (l1.length+l2.length<=maxLen/\(l1.length+l2.length)*24<=140737488355328):=⟨by unfold maxLen;omega,by omega⟩
     have H1:Hid _:=Fq l2
     have HL:Hid _:=Dj l2
     have hbs:w.heap.size<=wr.heap.size:=BQ.out.size
     go_wp2_with (at_builtin;refine Fj wr rfl _ _ 24 rfl w.heap.size 35 i0 _ 3 24 Tryz.underlying24 hi0 hz0 hz1 hz2 rfl (by decide) u6 _ _ rfl OW (.slice a2 l2.length q2) l2.length (Af l2) rfl RR.out HL.out H1.out HR.out.1 HR.out.2 hbs ?_)
     intro v5 w5 o5 _ b5;have FIN:Hid (w5.ownsRow w.heap.size 35 3 v5 (l1++l2).length (Af (l1++l2))/\Below w.heap.size w w5):=⟨by rw[BI,List.length_append];exact o5,BQ.out.trans b5⟩
     clear o5 b5 OW d0;go_wp2;go_roundw
     case rel=>exact⟨FIN.out.2, .inr (.inr ⟨by go_num,FIN.out.1⟩)⟩
     case measure=>simp[intOf]
    ·go_wp2;go_ret;exact⟨_,rfl,OQ.out,BQ.out⟩

theorem QB (cs:List Int) (i:Nat) (ms:ML) (j:Nat) (h:j<ms.length):mineK cs i (ms.take (j+1))=if EA cs (mK ms j) cs.length=i then mineK cs i (ms.take j)++[(mO ms j,mK ms j,mV ms j)] else mineK cs i (ms.take j):=by
 rw[DA ms j h,mineK,List.filter_append]
 by_cases hk:EA cs (mK ms j) cs.length=i
 ·simp[hk,mineK]
 ·simp[hk,mineK]
theorem IA (cs:List Int) (i:Nat) (ms:ML):(mineK cs i ms).length<=ms.length:=List.length_filter_le _ _

theorem Gi (vc:Value) (cs:List Int) (i:Nat) (vm:Value) (ms:ML) (w:World) (hc:Row w vc cs.length (Ad cs)) (hm:Row w vm ms.length (Af ms)) (hn:ms.length<=2097152) :
  Calls Tryz.prog 75 #[vc, .int .i64 i,vm] w fun e w' =>∃v',e= .returned v' ∧w'.ownsRow w.heap.size 35 3 v' (mineK cs i ms).length (Af (mineK cs i ms))/\Below w.heap.size w w' :=by
 obtain⟨i0,hi0,hz0,hz1,hz2⟩:=info_parts Tryz.info35
 obtain⟨a,b,off,cap,rfl,hcap,hmax,ha,ho,hk,hv⟩:=hm.msgs
 unfold maxLen at hmax;have RC:Hid (Row w vc cs.length (Ad cs)):=hc
 have MS:Hid (∀j,j<ms.length->mineK cs i (ms.take (j+1))=if EA cs (mK ms j) cs.length=i then mineK cs i (ms.take j)++[(mO ms j,mK ms j,mV ms j)] else mineK cs i (ms.take j)):=fun j hj=>QB cs i ms j hj
 have MF:Hid (mineK cs i (ms.take ms.length)=mineK cs i ms):=by
  show _=_
  rw[List.take_of_length_le (Nat.le_refl _)]
 have ML1:Hid (∀j,(mineK cs i (ms.take j)).length<=2097152):=fun j=>Nat.le_trans (IA _ _ _) (Nat.le_trans (List.length_take_le' _ _) hn)
 have KA:Hid (∀(k:Int) (w1:World),Below w.heap.size w w1->Calls Tryz.prog 89 #[vc, .int .i64 k] w1 fun e w' =>e= .returned (.int .i64 (EA cs k cs.length:Nat))/\Below w1.heap.size w1 w'):=fun k w1 hb=>Jf vc cs k w1 (RC.out.below hb)
 rw[←MF.out]
 generalize hfo:(fun j=>mineK cs i (ms.take j))=fo
 have hfo' :∀j,mineK cs i (ms.take j)=fo j:=fun j=>by rw[←hfo]
 have M0:Hid (fo 0=[]):=by
  show _=_
  rw[←hfo];rfl
 simp only[hfo'] at MS MF ML1 ⊢
 clear hfo hfo' hc hm MF;go_enter Tryz.func75,Tryz.ntmps75
 go_wp2;go_loopw [7,12] (fun out ii wr=>∃j:Nat,j<=ms.length/\ii= .int .i64 j/\Hid (wr.ownsRow w.heap.size 35 3 out (fo j).length (Af (fo j)))/\Hid (Below w.heap.size w wr))
  (fun _ ii _=>ms.length-(intOf ii).toNat)
 case atStart=>exact⟨0,Nat.zero_le _,rfl,by rw[M0.out];exact World.ownsRow_nil _ _ _ _,Below.refl _ _⟩
 case round=>
  obtain⟨j,hj,rfl,ON,BN⟩:=hrel
  by_cases hlt:j<ms.length
  ·have hal:=ha (by omega)
   subst hal;have d0:=Ab BN.out (Aa (ho j hlt)) (ho j hlt)
   have d1:=Ab BN.out (Aa (hk j hlt)) (hk j hlt)
   have d2:=Ab BN.out (Aa (hv j hlt)) (hv j hlt)
   have MS1:Hid _:=MS.out j hlt
   have hml:=ML1.out j
   have BA:Hid (Below w.heap.size w (wr.alloc (.cells #[.int .i64 (mO ms j), .int .i64 (mK ms j), .int .i64 (mV ms j)] 35))):=BN.out.alloc BN.out.size _
   have OA:Hid _:=ON.out.alloc (.cells #[.int .i64 (mO ms j), .int .i64 (mK ms j), .int .i64 (mV ms j)] 35)
   have MA:Hid _:=heap_alloc_new wr (.cells #[.int .i64 (mO ms j), .int .i64 (mK ms j), .int .i64 (mV ms j)] 35)
   have KC:Hid _:=KA.out (mK ms j) _ BA.out
   generalize mO ms j=x0 at *
   generalize mK ms j=x1 at *
   generalize mV ms j=x2 at *
   clear ho hk hv ha ON BN;generalize hcn:EA cs x1 cs.length=CN at *
   go_wp2_with fail;refine Calls.mono KC.out ?_
   rintro e w1 ⟨rfl,b1⟩
   have B1:Hid (Below w.heap.size w w1):=Below.and BA.out b1
   have O1:Hid (w1.ownsRow w.heap.size 35 3 u7 (fo j).length (Af (fo j))):=AF OA.out b1
   have M1:Hid (w1.heap[wr.heap.size]? =some (.cells #[.int .i64 x0, .int .i64 x1, .int .i64 x2] 35 (0,0))):=by
    show _=_
    rw[b1.block _ (by simp)];exact MA.out
   obtain⟨m0,m1,m2⟩:=V9 M1.out
   clear d0 d1 d2 b1 BA OA MA;by_cases hq:CN=i
   ·subst hq;have DS:Hid (fo (j+1)=fo j++[(x0,x1,x2)]):=MS1.out.trans (if_pos rfl)
    have HR:Hid _:=Bb (n:=(fo j).length) (bytes:=24) (by omega) (by decide)
    have H1:Hid _:=Jy x0 x1 x2
    have hbs:w.heap.size<=w1.heap.size:=B1.out.size
    have OW:=O1.out
    clear MS1;go_wp2_with (at_builtin;refine Bm w1 rfl _ _ 24 rfl w.heap.size 35 i0 _ 3 24 Tryz.underlying24 hi0 hz0 hz1 hz2 rfl (by decide) u7 _ _ rfl OW [.int .i64 x0, .int .i64 x1, .int .i64 x2] rfl rfl H1.out HR.out.1 HR.out.2 hbs ?_)
    intro v5 w5 o5 _ b5;have FIN:Hid _:=And.intro o5 (B1.out.trans b5)
    clear o5 b5 OW m0 m1 m2;go_wp2;go_roundw
    case rel=>exact⟨j+1,by omega,by go_num,by rw[DS.out,BI,List.length_append];exact FIN.out.1,FIN.out.2⟩
    case measure=>simp[intOf];omega
   ·have DS:Hid (fo (j+1)=fo j):=MS1.out.trans (if_neg hq)
    have e4:((CN:Int)==(i:Int))=false:=by rw[beq_eq_false_iff_ne];omega
    clear MS1;go_wp2;go_roundw
    case rel=>exact⟨j+1,by omega,by go_num,by rw[DS.out];exact O1,B1⟩
    case measure=>simp[intOf];omega
  ·have hjj:j=ms.length:=by omega
   have ON' :Hid (wr.ownsRow w.heap.size 35 3 u7 (fo ms.length).length (Af (fo ms.length))):=by rw[←hjj];exact ON
   clear ho hk hv ha;go_wp2;go_ret;exact⟨_,rfl,ON'.out,BN.out⟩
end
section
open Go.RowKit

abbrev Pt:=Value × Nat × List Value
def DT (P:List Pt) (i:Nat):Pt:=P.getD i (.slice none 0 0,0,[])
def ptN (P:List Pt) (j:Nat):Nat:=((P.take j).map fun p=>p.2.1).sum
def ptC (P:List Pt) (j:Nat):List Value:=((P.take j).map fun p=>p.2.2).flatten
theorem J4 (P:List Pt) (j:Nat) (h:j<P.length):P.take (j+1)=P.take j++[DT P j]:=by
 rw[List.take_succ_eq_append_getElem h];simp[DT,List.getD,h]
theorem Ks (P:List Pt) (j:Nat) (h:j<P.length):ptN P (j+1)=ptN P j+(DT P j).2.1:=by
 unfold ptN;rw[J4 P j h,List.map_append,List.sum_append];simp
theorem Ox (P:List Pt) (j:Nat) (h:j<P.length):ptC P (j+1)=ptC P j++(DT P j).2.2:=by
 unfold ptC;rw[J4 P j h,List.map_append,List.flatten_append];simp
theorem Qr (P:List Pt):∀j k,j<=k->ptN P j<=ptN P k:=by
 intro j k h;induction k with
 |zero=>rw[show j=0 by omega];exact Nat.le_refl _
 |succ k ih=>
  by_cases e:j=k+1
  ·subst e;exact Nat.le_refl _
  ·have:=ih (by omega)
   by_cases hk:k<P.length
   ·rw[Ks P k hk];omega
   ·rw[ptN,ptN,List.take_of_length_le (by omega:P.length<=k+1)]
    rw[ptN,ptN,List.take_of_length_le (by omega:P.length<=k)] at this
    exact this
def WA (w:World) (size:Nat) (P:List Pt):Prop:=∀i,i<P.length->Row w (DT P i).1 (DT P i).2.1 (DT P i).2.2/\(DT P i).2.2.length=(DT P i).2.1*size/\∀y∈(DT P i).2.2,y.oneCell' =true

open Go.Lib in
theorem S9 (n:Nat) (w:World) (hn:n<=8388608) :
  Calls Tryz.prog 138 #[.slice none 0 0, .int .i64 n] w fun e w' =>∃v',e= .returned v' ∧w'.ownsRow w.heap.size 30 5 v' 0 []/\Below w.heap.size w w' :=by
 obtain⟨i0,hi0,hz0,hz1,hz2⟩:=info_parts Tryz.info30
 rcases Nat.eq_zero_or_pos n with rfl|hp
 ·go_enter Tryz.func138,Tryz.ntmps138
  go_wp2;go_ret;exact⟨_,rfl,World.ownsRow_nil _ _ _ _,Below.refl _ _⟩
 ·have hrz:∀ty,(Builtin.append_ #[28,3] ty #[.slice none 0 0, .int .i64 (n:Int)]).run Tryz.prog w =
    .ok (.slice (some ⟨w.heap.size,0,none⟩) n (grownCap w n 0 30)) (w.drew.alloc (.cells (#[]++Builtin.zeroCells (Value.agg #[.bool false, .slice none 0 0, .slice none 0 0, .slice none 0 0, .slice none 0 0]).cells n++Builtin.zeroCells (Value.agg #[.bool false, .slice none 0 0, .slice none 0 0, .slice none 0 0, .slice none 0 0]).cells (grownCap w n 0 30-n)) 30)):=fun ty=>by
   have h:=Lib.run_append_grow_zeros w 28 3 ty 30 i0 _ .i64 .i64 Tryz.underlying28 Tryz.underlying3 hi0 hz0 none 0 0 [] (run_firstCells_none w.drew i0.size 0 0 0) n hp (by rw[hz1];decide) (by omega) (by omega)
    (by rw[hz2];omega)
    (by rw[Nat.zero_add,hz2];exact growslice_fits hp (by omega))
   rw[Nat.zero_add] at h
   exact h
  have HRZ:Hid _:=hrz
  have hGn:n<=grownCap w n 0 30:=grownCap_ge w _ _ _
  have hG63:=grownCap_le_maxLen w n 0 30 (by unfold maxLen;omega)
  generalize grownCap w n 0 30=G at *
  have hb1:(0:Int)<(n:Int):=by omega
  have hb2:¬((n:Int)<0):=by omega
  have hgm:G<=9223372036854775807:=by
   have:=hG63
   unfold maxLen at this;omega
  have OW:Hid ((w.alloc (.cells (Builtin.zeroCells #[.bool false, .slice none 0 0, .slice none 0 0, .slice none 0 0, .slice none 0 0] n++Builtin.zeroCells #[.bool false, .slice none 0 0, .slice none 0 0, .slice none 0 0, .slice none 0 0] (G-n)) 30)).drew.ownsRow w.heap.size 30 5 (.slice (some ⟨w.heap.size,0,none⟩) 0 G) 0 []):=
   ⟨by simp, .inr ⟨w.heap.size,G,_,rfl,Nat.le_refl _,heap_alloc_new w _,Nat.zero_le _,hG63,by
    simp only[Array.size_append,size_zeroCells]
    show n*5+(G-n)*5=G*5
    omega,by simp⟩⟩
  clear hrz hG63;go_enter Tryz.func138,Tryz.ntmps138
  go_wp2_with (at_builtin;refine Lib.wpList_append_run _ rfl _ _ _ _ rfl _ _ rfl rfl _ _ (HRZ.out _) ?_)
  all_goals
   go_ret;exact⟨_,rfl,OW.out,((Below.refl _ _).alloc (Nat.le_refl _) _).drew⟩

theorem Qm (b off q:Nat) (P:List Pt) (w:World) (hq:P.length<=q) (hqm:q<=maxLen) (hp0:0<P.length) (hc:∀i,i<P.length->w.cell? ⟨b,off+i,none⟩=some (DT P i).1) (hP:WA w 5 P) (hn:ptN P P.length<=2097152) :
  Calls Tryz.prog 132 #[.slice (some ⟨b,off,none⟩) P.length q] w fun e w' =>∃v',e= .returned v' ∧w'.ownsRow w.heap.size 30 5 v' (ptN P P.length) (ptC P P.length)/\Below w.heap.size w w' :=by
 obtain⟨i0,hi0,hz0,hz1,hz2⟩:=info_parts Tryz.info30
 have HC:Hid _:=hc
 have HP:Hid (∀i,i<P.length->Row w (DT P i).1 (DT P i).2.1 (DT P i).2.2/\(DT P i).2.2.length=(DT P i).2.1*5/\∀y∈(DT P i).2.2,y.oneCell' =true):=hP
 have NS:Hid (∀j,j<P.length->ptN P (j+1)=ptN P j+(DT P j).2.1):=fun j=>Ks P j
 have CS:Hid (∀j,j<P.length->ptC P (j+1)=ptC P j++(DT P j).2.2):=fun j=>Ox P j
 have NL:Hid (∀j,j<=P.length->ptN P j<=2097152):=fun j hj=>Nat.le_trans (Qr P j _ hj) hn
 have N0:Hid (ptN P 0=0):=rfl
 have C0:Hid (ptC P 0=[]):=rfl
 unfold maxLen at hqm;clear hc hP;generalize hk:P.length=k at *
 clear hk;go_enter Tryz.func132,Tryz.ntmps132
 go_wp2;go_loopw [3,11] (fun sz i wr=>w=wr/\∃(j s:Nat),i= .int .i64 j/\sz= .int .i64 s/\j<=k/\s<=2097152/\Hid (s=ptN P j)) (fun _ i _=>k-(intOf i).toNat)
 case atStart=>exact⟨rfl,0,0,rfl,rfl,Nat.zero_le _,Nat.zero_le _,N0.out.symm⟩
 case round=>
  obtain⟨rfl,j,s,rfl,rfl,hjk,hs,HS⟩:=hrel
  by_cases hlt:j<k
  ·obtain⟨hr, -⟩:=HP.out j (by omega)
   obtain⟨aj,qj,ej,_⟩:=hr.len
   have cj:=HC.out j hlt
   rw[ej] at cj
   have e1:=NS.out j hlt
   have e2:=NL.out (j+1) (by omega)
   have e3:=HS.out
   generalize (DT P j).2.1=m at *
   have hm:s+m<=2097152:=by omega
   have HS2:Hid (s+m=ptN P (j+1)):=by show _=_;omega
   have hp:¬((s:Int)+(m:Int)<0):=by omega
   clear e1 e2 e3 hr ej;go_wp2;go_roundw
   case rel=>exact⟨trivial,j+1,s+m,by go_num,by go_num,by omega,hm,HS2⟩
   case measure=>simp[intOf];omega
  ·have hjk' :j=k:=by omega
   have HS2:Hid (s=ptN P k):=by show _=_;rw[←hjk'];exact HS.out
   have GA:Hid (Calls Tryz.prog 138 #[.slice none 0 0, .int .i64 s] w fun e w' =>∃v',e= .returned v' ∧w'.ownsRow w.heap.size 30 5 v' 0 []/\Below w.heap.size w w'):=S9 s w (by omega)
   clear hjk' HS;go_wp2_with fail;refine Calls.mono GA.out ?_
   rintro e w2 ⟨v2,rfl,o2,hb2⟩
   obtain⟨a2,c2,hv2,_⟩:=(Row.of_owns o2).len
   subst hv2;have O2:Hid (w2.ownsRow w.heap.size 30 5 (.slice a2 0 c2) 0 []):=o2
   have B2:Hid (Below w.heap.size w w2):=hb2
   clear o2 hb2;go_wp2;go_loopw [6,27] (fun out i wr=>Hid (Below w.heap.size w wr)/\∃(j' m' c' :Nat) (a' :Option Addr),i= .int .i64 j' ∧j' <=k/\m' <=2097152/\out= .slice a' m' c' ∧Hid (m' =ptN P j')/\Hid (wr.ownsRow w.heap.size 30 5 (.slice a' m' c') m' (ptC P j'))) (fun _ i _=>k-(intOf i).toNat)
   case atStart=>exact⟨B2,0,0,c2,a2,rfl,Nat.zero_le _,Nat.zero_le _,rfl,N0.out.symm,by show World.ownsRow _ _ _ _ _ _ _;rw[C0.out];exact O2.out⟩
   case round=>
    obtain⟨BQ,j',m',c',a',rfl,hjk2,hm',rfl,HM,OQ⟩:=hrel
    clear O2 B2;by_cases hlt2:j' < k
    ·obtain⟨hr,hl,h1⟩:=HP.out j' (by omega)
     obtain⟨aj,qj,ej,_⟩:=hr.len
     have cj:=HC.out j' hlt2
     have e1:=NS.out j' hlt2
     have e2:=NL.out (j' +1) (by omega)
     have e3:=HM.out
     have e4:=CS.out j' hlt2
     rw[ej] at cj hr
     have d0:=Ab BQ.out (Aa cj) cj
     generalize (DT P j').2.1=m at *
     generalize (DT P j').2.2=X at *
     have HR:Hid (m' +m<=maxLen/\(m' +m)*104<=140737488355328):=⟨by unfold maxLen;omega,by omega⟩
     have RR:Hid _:=hr.below BQ.out
     have H1:Hid _:=h1
     have HL:Hid _:=hl
     have hm2:m' +m<=2097152:=by omega
     have HM2:Hid (m' +m=ptN P (j' +1)):=by show _=_;omega
     have E4:Hid _:=e4
     have hbs:w.heap.size<=wr.heap.size:=BQ.out.size
     clear e1 e2 e3 e4 hr hl h1 ej cj;go_wp2_with (at_builtin;refine Fj wr rfl _ _ 28 rfl w.heap.size 30 i0 _ 5 104 Tryz.underlying28 hi0 hz0 hz1 hz2 rfl (by decide) (.slice a' m' c') m' _ rfl OQ.out (.slice aj m qj) m X rfl RR.out HL.out H1.out HR.out.1 HR.out.2 hbs ?_)
     intro v5 w5 o5 _ b5;obtain⟨a5,c5,hv5,_⟩:=(Row.of_owns o5).len
     subst hv5;have FIN:Hid (w5.ownsRow w.heap.size 30 5 (.slice a5 (m' +m) c5) (m' +m) (ptC P (j' +1))/\Below w.heap.size w w5):=⟨by rw[E4.out];exact o5,BQ.out.trans b5⟩
     clear o5 b5 d0;go_wp2;go_roundw
     case rel=>exact⟨FIN.out.2,j' +1,m' +m,c5,a5,by go_num,by omega,hm2,rfl,HM2,FIN.out.1⟩
     case measure=>simp[intOf];omega
    ·have hjk' :j' =k:=by omega
     have FIN:Hid (wr.ownsRow w.heap.size 30 5 (.slice a' m' c') (ptN P k) (ptC P k)):=by
      have h1:=OQ.out
      have h2:=HM.out
      rw[hjk'] at h1 h2
      rw[h2] at h1 ⊢
      exact h1
     clear hjk';go_wp2;go_ret;exact⟨_,rfl,FIN.out,BQ.out⟩
end
end Go.Proofs.YtadmomgdacfgpaaGreat
