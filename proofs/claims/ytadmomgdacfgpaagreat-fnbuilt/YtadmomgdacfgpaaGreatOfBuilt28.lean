/-
  l4Give at all depths; the contract of the model's l4Root.
  The contract of the model's l4Drain.
  What the model's Inject and Drain make of a tree, as plain functions.
  A call in a region by the callee's contract, without a walk.
  Build: what it makes, as plain data.
  Build of the program.
-/
import Derived.Test.YtadmomgdacfgpaaGreatOfBuilt27
import Derived.Test.YtadmomgdacfgpaaGreatOfBuilt9
import Derived.Deep.LoopGhost
import Derived.Test.YtadmomgdacfgpaaGreatOfBuilt23
import Derived.Test.YtadmomgdacfgpaaGreatOfBuilt1
import Derived.WalkKit
import Derived.Test.YtadmomgdacfgpaaGreatOfBuilt22
import Derived.Test.YtadmomgdacfgpaaGreatOfBuilt11
import Derived.Test.YtadmomgdacfgpaaGreatOfBuilt4
import Derived.Deep.MidRow
import Derived.Deep.RegionHeld3
namespace Go.Proofs.YtadmomgdacfgpaaGreat
set_option maxRecDepth 100000
set_option maxHeartbeats 8000000
section
open Go.RowKit

theorem Lc:∀d,Rk d
 |0=>fun _ _ _ _ _ _ _ _ h _ _=>h.elim
 |d+1=>by
  intro F x T vm ms w ht hm hs hp hn;rcases hs with⟨h1,rfl,h2,h3⟩|⟨h1,h0,h2,h3,h4,h5,h6⟩
  ·rw[Ae,if_pos h1]
   exact Ut 0 F x T vm ms w ht hm h1 (by omega)
  ·rw[Ae,if_neg (by rw[h1];simp)]
   refine Tj (Lc d) (Wp (Lc d)) F x T vm ms w ht hm h1 ⟨h4,h6⟩ h2 ?_
   rw[wt,if_neg (by rw[h1];simp)] at hn
   exact hn

theorem V2 {f:Nat} {m:TM} (h:4<m.1.length) (hf:m.1.length<=f):BJ f m=BJ (f-1) (CJ m):=by
 cases f with
 |zero=>omega
 |succ f=>rw[BJ,if_pos h,Nat.add_sub_cancel]
theorem Tt {f:Nat} {m:TM} (h:m.1.length=1) (hf:m.1.length<=f):BJ f m=m.1.getD 0 An:=by
 cases f with
 |zero=>omega
 |succ f=>rw[BJ,if_neg (by omega),if_pos h]
theorem Uv {f:Nat} {m:TM} (h:¬4<m.1.length) (h1:¬m.1.length=1) (hp:0<m.1.length) (hf:m.1.length<=f):BJ f m=⟨false,[],m.2,m.1,[]⟩:=by
 cases f with
 |zero=>omega
 |succ f=>rw[BJ,if_neg h,if_neg h1]

theorem RJ (d:Nat) (F:Nat->Prop) (vt vc:Value) (m:TM) (w:World) (ht:Ah d w F vt m.1) (hc:Ao w F vc m.2.length (Ad m.2)) (hm:MOk d m) (hn:wtL d m.1<=1000000) :
  Calls Tryz.prog 38 #[.agg #[vt,vc]] w fun e w' =>∃(x:TV),e= .returned x.val/\Aw (d+m.1.length) w' (fun b=>F b∨w.heap.size<=b) x (BJ m.1.length m)/\Below w.heap.size w w' :=by
 obtain⟨at0,qt0,hvt,_⟩:=(show Row w vt m.1.length _ from(ht.els.choose_spec.2).row).len
 obtain⟨ac0,qc0,hvc,_⟩:=hc.row.len
 subst hvt;subst hvc;have HT:Hid (Ah d w (fun b=>(F b/\b<w.heap.size)∨w.heap.size+2<=b) (.slice at0 m.1.length qt0) m.1):=ht.lt.mono (fun g hg=> .inl hg)
 have HC:Hid (Ao w (fun b=>(F b/\b<w.heap.size)∨w.heap.size+2<=b) (.slice ac0 m.2.length qc0) m.2.length (Ad m.2)):=(hc.lt (Db _).2).mono (fun g hg=> .inl hg)
 have HM:Hid (MOk d m):=hm
 have HN:=hid (hn)
 generalize hR:BJ m.1.length m=R
 have HR:=hid (hR)
 generalize hD:d+m.1.length=D
 have HD:Hid (d+m.1.length<=D):=Nat.le_of_eq hD
 clear ht hc hm hn hR;have B0:Hid (Below w.heap.size w ((w.alloc (.cells #[.slice at0 m.1.length qt0, .slice ac0 m.2.length qc0] 74)).alloc (.cells #[.bool false, .slice none 0 0, .slice none 0 0, .slice none 0 0, .slice none 0 0] 30))):=al2 _ _ _
 have X0:Hid (Aq ((w.alloc (.cells #[.slice at0 m.1.length qt0, .slice ac0 m.2.length qc0] 74)).alloc (.cells #[.bool false, .slice none 0 0, .slice none 0 0, .slice none 0 0, .slice none 0 0] 30)) w.heap.size #[.slice at0 m.1.length qt0, .slice ac0 m.2.length qc0]):=(Aq.start w _).alloc _
 have X1:Hid (Ak ((w.alloc (.cells #[.slice at0 m.1.length qt0, .slice ac0 m.2.length qc0] 74)).alloc (.cells #[.bool false, .slice none 0 0, .slice none 0 0, .slice none 0 0, .slice none 0 0] 30)) (w.heap.size+1) #[.bool false, .slice none 0 0, .slice none 0 0, .slice none 0 0, .slice none 0 0]):=by
  have:=Ak.start (w.alloc (.cells #[.slice at0 m.1.length qt0, .slice ac0 m.2.length qc0] 74)) #[.bool false, .slice none 0 0, .slice none 0 0, .slice none 0 0, .slice none 0 0]
  rw[World.size_alloc] at this
  exact this
 have Z0:Hid (w.heap.size+2<=((w.alloc (.cells #[.slice at0 m.1.length qt0, .slice ac0 m.2.length qc0] 74)).alloc (.cells #[.bool false, .slice none 0 0, .slice none 0 0, .slice none 0 0, .slice none 0 0] 30)).heap.size):=by show _<=_;simp
 generalize hn1:m.1.length=n1 at *
 generalize hn2:m.2.length=n2 at *
 go_enter Tryz.func38,Tryz.ntmps38
 go_wp2;refine Ey (fun W=>Aq W w.heap.size #[.slice at0 n1 qt0, .slice ac0 n2 qc0]/\Ak W (w.heap.size+1) #[.bool false, .slice none 0 0, .slice none 0 0, .slice none 0 0, .slice none 0 0]/\Below w.heap.size w W/\w.heap.size+2<=W.heap.size) ⟨X0.out,X1.out,B0.out,Z0.out⟩ ?_
 rintro W ⟨Y0,Y1,YB,YZ⟩
 clear X0 X1 B0 Z0;go_loopg [] n1 (fun k wr=>∃(mm:TM) (d' f:Nat) (e1 e2:Option Addr) (p1 p2:Nat),k=mm.1.length/\Hid (Aq wr w.heap.size #[.slice e1 mm.1.length p1, .slice e2 mm.2.length p2])/\Hid (Ah d' wr (fun b=>(F b/\b<w.heap.size)∨w.heap.size+2<=b) (.slice e1 mm.1.length p1) mm.1)/\Hid (Ao wr (fun b=>(F b/\b<w.heap.size)∨w.heap.size+2<=b) (.slice e2 mm.2.length p2) mm.2.length (Ad mm.2))/\Hid (MOk d' mm)/\Hid (wtL d' mm.1<=1000000)/\Hid (BJ f mm=R)/\Hid (mm.1.length<=f)/\Hid (d' +mm.1.length<=D)/\Hid (Ak wr (w.heap.size+1) #[.bool false, .slice none 0 0, .slice none 0 0, .slice none 0 0, .slice none 0 0])/\Hid (Below w.heap.size w wr)/\Hid (w.heap.size+2<=wr.heap.size))
 case atStart=>exact⟨m,d,n1,at0,ac0,qt0,qc0,hn1.symm,by rw[hn1,hn2];exact Y0,by rw[hn1];exact HT.out.below YB,by rw[hn2];exact HC.out.below YB,HM,HN,HR,Nat.le_of_eq hn1,by rw[hn1];exact HD,Y1,YB,YZ⟩
 case round=>
  obtain⟨mm,d',f,e1,e2,p1,p2,rfl,BL,TM1,RM1,MO1,HW,HL,HF,HE,BR,BW,ZL⟩:=hrel
  clear Y0 Y1 YB YZ HT HC HM HN HR HD;have hmo:=MO1.out.1
  have hwl:=BE MO1.out.2
  have hww:=HW.out
  obtain⟨x0,x1⟩:=BL.out.two
  by_cases h4:4<mm.1.length
  ·have h4' :(4:Int)<(mm.1.length:Int):=by omega
   have HP:Hid _:=K9 d' _ _ _ mm wr TM1.out RM1.out hmo (by omega) (by omega)
   have PO:=Hx MO1.out (by omega)
   have HL1:Hid (BJ (f-1) (CJ mm)=R):=by show _=_;rw[←V2 h4 HF.out];exact HL.out
   have NX:Hid (MOk (d' +1) (CJ mm)/\wtL (d' +1) (CJ mm).1<=1000000/\(CJ mm).1.length<=f-1/\d' +1+(CJ mm).1.length<=D/\(CJ mm).1.length<mm.1.length):=by
    have:=HF.out
    have:=HE.out
    exact⟨PO.1,by omega,by omega,by omega,by omega⟩
   clear PO;generalize CJ mm=PM at *
   clear TM1 RM1 MO1 HL hwl hww HW HF HE;go_wp2_with fail;refine Calls.mono HP.out ?_
   rintro e w1 ⟨v1,v2,rfl,TP,RP,hb1⟩
   obtain⟨az,qz,hu1,_⟩:=(show Row w1 v1 PM.1.length _ from(TP.els.choose_spec.2).row).len
   obtain⟨ay,qy,hu2,_⟩:=RP.row.len
   subst hu1;subst hu2;have BL1:Hid (Aq w1 w.heap.size #[.slice e1 mm.1.length p1, .slice e2 mm.2.length p2]):=BL.out.step hb1 BL.out.lt
   have FIN:Hid (∀v v',Ah (d' +1) (set2 w1 w.heap.size v v') (fun b=>(F b/\b<w.heap.size)∨w.heap.size+2<=b) (.slice az PM.1.length qz) PM.1/\Ao (set2 w1 w.heap.size v v') (fun b=>(F b/\b<w.heap.size)∨w.heap.size+2<=b) (.slice ay PM.2.length qy) PM.2.length (Ad PM.2)/\Ak (set2 w1 w.heap.size v v') (w.heap.size+1) #[.bool false, .slice none 0 0, .slice none 0 0, .slice none 0 0, .slice none 0 0]/\Below w.heap.size w (set2 w1 w.heap.size v v')/\w.heap.size+2<=(set2 w1 w.heap.size v v').heap.size):=fun v v' =>by
    have hz:=ZL.out
    have hc:=DW w1 w.heap.size v v'
    have hbw:=BW.out.size
    have hb1s:=hb1.size
    have hk:∀g,((fun b=>(F b/\b<w.heap.size)∨w.heap.size+2<=b) g∨wr.heap.size<=g)->¬g=w.heap.size/\((F g/\g<w.heap.size)∨w.heap.size+2<=g):=fun g hg=>by
     rcases hg with(⟨h1,h2⟩|h)|h
     ·exact⟨by omega, .inl ⟨h1,h2⟩⟩
     ·exact⟨by omega, .inr (by omega)⟩
     ·exact⟨by omega, .inr (by omega)⟩
    refine⟨(TP.chg hc (fun g hg=>(hk g hg).1)).mono (fun g hg=>(hk g hg).2),(RP.chg hc (fun g hg=>(hk g hg).1)).mono (fun g hg=>(hk g hg).2),(BR.out.stepB hb1 (by omega)).chg hc (by omega),(Below.and BW.out hb1).trans (hc.below (fun g _ hg=>by omega) (by omega)), ?_⟩
    have:=hc.size
    omega
   obtain⟨m0,m1⟩:=BL1.out.two
   obtain⟨f0,f1⟩:=BL1.out.free
   clear TP RP hb1 HP x0 x1 BL BR BW ZL;generalize hq1:PM.1.length=l1 at *
   generalize hq2:PM.2.length=l2 at *
   go_wp2;go_roundg l1
   case measure=>exact NX.out.2.2.2.2
   case rel=>exact⟨PM,d' +1,f-1,az,ay,qz,qy,hq1.symm,by rw[hq1,hq2];exact BL1.out.set2 _ _,by rw[hq1];exact(FIN.out _ _).1,by rw[hq2];exact(FIN.out _ _).2.1,NX.out.1,NX.out.2.1,HL1,by rw[hq1];exact NX.out.2.2.1,by rw[hq1];exact NX.out.2.2.2.1,(FIN.out _ _).2.2.1,(FIN.out _ _).2.2.2.1,(FIN.out _ _).2.2.2.2⟩
  ·have h4' :¬(4:Int)<(mm.1.length:Int):=by omega
   obtain⟨⟨m0,m1,m2,m3,m4⟩,f0,f1,f2,f3,f4⟩:=Bm BR.out
   by_cases h1:mm.1.length=1
   ·have ER:R=mm.1.getD 0 An:=HL.out.symm.trans (Tt h1 HF.out)
    obtain⟨xs0,hxl,hrow,hel⟩:=TM1.out
    obtain⟨av,b1,off1,c1,hvt,hcap1,hmax1,ha1,d0,d1,d2,d3,d4⟩:=hrow.row.trees
    have KD:Hid (Aw d' wr (fun b=>(F b/\b<w.heap.size)∨w.heap.size+2<=b) (Az xs0 0) (mm.1.getD 0 An)):=hel 0 (by omega)
    have c0:=d0 0 (by omega)
    have c1' :=d1 0 (by omega)
    have c2:=d2 0 (by omega)
    have c3:=d3 0 (by omega)
    have c4:=d4 0 (by omega)
    have hav:=ha1 (by omega)
    subst hav;obtain⟨r1,r2,r3,r4,s1,s2,s3,s4,hy⟩:=KD.out.treeAt.shape
    rw[hy] at KD c0 c1' c2 c3 c4
    simp only[Nat.zero_mul,Nat.add_zero] at c0 c1' c2 c3 c4
    have hw1:((mm.1.length:Nat):Int)=1:=by omega
    have hv:(Value.slice e1 mm.1.length p1)= .slice (some ⟨b1,off1,none⟩) 1 c1:=by rw[hvt,hxl,h1]
    rw[hv] at BL x0
    have FIN:Hid (∀v0 v1 v2 v3 v4,Aw D (set5 wr (w.heap.size+1) v0 v1 v2 v3 v4) (fun b=>F b∨w.heap.size<=b) (⟨(mm.1.getD 0 An).leaf, .slice r1 (mm.1.getD 0 An).pairs.length s1, .slice r2 (mm.1.getD 0 An).cuts.length s2, .slice r3 (mm.1.getD 0 An).kids.length s3, .slice r4 (mm.1.getD 0 An).buf.length s4⟩:TV) R/\Below w.heap.size w (set5 wr (w.heap.size+1) v0 v1 v2 v3 v4)):=fun v0 v1 v2 v3 v4=>by
     have hc:=Bv wr (w.heap.size+1) v0 v1 v2 v3 v4
     have hz:=ZL.out
     have hbw:=BW.out.size
     have he:=HE.out
     rw[ER]
     exact⟨((KD.out.chg hc (fun g hg k=>by rcases hg with h|h<;>omega)).mono (fun g hg=>hg.elim (fun h=> .inl h.1) (fun h=> .inr (by omega)))).le (by omega),BW.out.trans (hc.below (fun g _ hg=>by omega) (by omega))⟩
    generalize (mm.1.getD 0 An).leaf=z0 at *
    generalize (mm.1.getD 0 An).pairs.length=z1 at *
    generalize (mm.1.getD 0 An).cuts.length=z2 at *
    generalize (mm.1.getD 0 An).kids.length=z3 at *
    generalize (mm.1.getD 0 An).buf.length=z4 at *
    clear TM1 RM1 MO1 HL hwl hww HW HF HE BL BW ZL KD hrow hel d0 d1 d2 d3 d4 ha1 hvt hv hxl hy ER hmo;go_wp2;refine bodyPost_ret (v:= .agg #[.bool z0, .slice r1 z1 s1, .slice r2 z2 s2, .slice r3 z3 s3, .slice r4 z4 s4]) (by simp[results,Tryz.results38,go_sem,m0,m1,m2,m3,m4]) rfl ⟨⟨z0, .slice r1 z1 s1, .slice r2 z2 s2, .slice r3 z3 s3, .slice r4 z4 s4⟩,rfl,(FIN.out _ _ _ _ _).1,(FIN.out _ _ _ _ _).2⟩
   ·have ER:R=⟨false,[],mm.2,mm.1,[]⟩:=HL.out.symm.trans (Uv h4 h1 (by omega) HF.out)
    have h1' :¬((mm.1.length:Nat):Int)=1:=by omega
    have FIN:Hid (∀v0 v1 v2 v3 v4,Aw D (set5 wr (w.heap.size+1) v0 v1 v2 v3 v4) (fun b=>F b∨w.heap.size<=b) (⟨false, .slice none 0 0, .slice e2 mm.2.length p2, .slice e1 mm.1.length p1, .slice none 0 0⟩:TV) R/\Below w.heap.size w (set5 wr (w.heap.size+1) v0 v1 v2 v3 v4)):=fun v0 v1 v2 v3 v4=>by
     have hc:=Bv wr (w.heap.size+1) v0 v1 v2 v3 v4
     have hz:=ZL.out
     have hbw:=BW.out.size
     have he:=HE.out
     rw[ER]
     have hk:∀g,(F g/\g<w.heap.size)∨w.heap.size+2<=g->¬g=w.heap.size+1/\(F g∨w.heap.size<=g):=fun g hg=>by
      rcases hg with⟨h1,h2⟩|h
      ·exact⟨by omega, .inl h1⟩
      ·exact⟨by omega, .inr (by omega)⟩
     refine⟨Aw.le (n:=d' +1) (Aw.mk rfl (Ao.nil _ _) ((RM1.out.chg hc (fun g hg=>(hk g hg).1)).mono (fun g hg=>(hk g hg).2)) (Ao.nil _ _) ((TM1.out.chg hc (fun g hg=>(hk g hg).1)).mono (fun g hg=>(hk g hg).2))) (by omega),BW.out.trans (hc.below (fun g _ hg=>by omega) (by omega))⟩
    clear TM1 RM1 MO1 HL hwl hww HW HF HE BL BW ZL ER hmo;generalize mm.1.length=l1 at *
    generalize mm.2.length=l2 at *
    go_wp2;refine bodyPost_ret (v:= .agg #[.bool false, .slice none 0 0, .slice e2 l2 p2, .slice e1 l1 p1, .slice none 0 0]) (by simp[results,Tryz.results38,go_sem,m0,m1,m2,m3,m4]) rfl ⟨⟨false, .slice none 0 0, .slice e2 l2 p2, .slice e1 l1 p1, .slice none 0 0⟩,rfl,(FIN.out _ _ _ _ _).1,(FIN.out _ _ _ _ _).2⟩
end
section
open Go.RowKit
end
section
open Go.RowKit

def Et (g:TM):Tr:=BJ g.1.length g
def EK (T:Tr) (m:Int × Int × Int):Tr:=
 if okT T=true/\AO m.1 m.2.1 m.2.2=true/\¬m.1=4 then (if okT (Et (Ae (Av T) T [m]))=true then Et (Ae (Av T) T [m]) else T) else T
def XJ (T:Tr):Tr:=if okT T=true then (if okT (Et (R9 (Av T) T))=true then Et (R9 (Av T) T) else T) else T

theorem L7 {T:Tr} (h:okT T=true):shT (Av T) T/\Av T<=7/\wt (Av T) T+2<=49152:=by
 have h0:Av T≠0:=by
  unfold okT at h;have:=of_decide_eq_true h
  omega
 have h1:shT (Av T) T:=Gp h0
 have h2:Av T<=7:=Gy _ _ _ _
 refine⟨h1,h2,Nat.le_trans (WM _ _ h1) ?_⟩
 have:4^Av T<=4^7:=Nat.pow_le_pow_right (by decide) h2
 omega

theorem Jg:∀(e:Nat) (T:Tr),shT e T->∀n,e<=n->AU n T=AU e T
 |0,_,h,_,_=>h.elim
 |e+1,T,h,n,hn=>by
  cases n with
  |zero=>omega
  |succ n=>
   have hk:T.kids.map (AU n)=T.kids.map (AU e):=by
    rcases h with⟨_,_,_,_,h,_⟩|⟨_,_,_,_,_,_,h⟩
    ·rw[h];rfl
    ·exact List.map_congr_left fun t ht=>Jg e t (h t ht) n (by omega)
   show T.pairs.length+(T.cuts.length+(T.kids.length+(T.kids.map (AU n)).sum+T.buf.length))=T.pairs.length+(T.cuts.length+(T.kids.length+(T.kids.map (AU e)).sum+T.buf.length))
   rw[hk]
theorem Sk {e:Nat} {T:Tr} (h:shT e T) {n:Nat} (hn:e<=n):AU n T<=7*wt e T:=by
 rw[Jg e T h n hn]
 have:=SQ e T h
 omega
theorem Au.down:∀ {e n:Nat} {w:World} {F:Nat->Prop} {x:TV} {T:Tr},shT e T->Au n w F x T->Au e w F x T
 |0,_,_,_,_,_,h,_=>h.elim
 |_+1,0,_,_,_,_,_,h=>h.elim
 |e+1,n+1,w,F,x,T,hs,⟨h1,h2,h3,h4,h5,xs,K,k1,k2,k3,k4,k5⟩=>by
  refine⟨h1,h2,h3,h4,h5,xs,K,k1,k2,fun i hi=> ?_,k4,k5⟩
  rcases hs with⟨_,_,_,_,h,_⟩|⟨_,_,_,_,_,_,h⟩
  ·rw[k1,h] at hi;exact absurd hi (Nat.not_lt_zero _)
  ·exact Au.down (h _ (Cv (by omega))) (k3 i hi)

theorem Tf {d:Nat} {T:Tr} {ms:ML} (hs:shT d T) (hp:0<ms.length):∃e,e<=d+(Ae d T ms).1.length/\shT e (Et (Ae d T ms))/\wt e (Et (Ae d T ms))<=wt d T+ms.length:=by
 obtain⟨h1,h2⟩:=Ca d T ms hs hp
 obtain⟨e,_,e2,e3,e4⟩:=Qx _ d (Ae d T ms) h1 (Nat.le_refl _)
 exact⟨e,e2,e3,Nat.le_trans e4 h2⟩
theorem V7 {T:Tr} (h:okT T=true) (m:Int × Int × Int):okT (EK T m)=true:=by
 unfold EK;split
 ·split
  ·assumption
  ·exact h
 ·exact h
end
section
open Go.RowKit

theorem KU {P:Program} {o:Oper} {a:Act} {K:Act->World->Prop} {Q:Exit->Act->World->Prop} {w:World} {R:Ending->World->Prop} (f:FuncId) (xs:List Operand) (ats:Array TypeId)
  (ho:o.op= .call { callee:= .value (.func f),args:=xs.toArray,argTypes:=ats }) (hrun:∀args w,(callFunc f args).run P w= .ok (.enter f args) w) (args:List Value) (he:xs.map a.eval=args)
  (h:Calls P f args.toArray w R) (hk:∀e w',R e w' ->∃v,e= .returned v/\K (a.put o.dst v) w'):o.wp P a w K Q:=by
 have ef:a.eval (.func f)= .func (.func f) #[] #[]:=rfl
 have hx:execOp a.eval o=callFunc f args.toArray:=by
  unfold execOp;simp[ho,resolve,Deferred.ofValue,invoke,ef,he]
 unfold Oper.wp
 rw[hx,hrun,Oper.upon_enter]
 refine Calls.mono h ?_
 intro e w' hr;obtain⟨v,rfl,hk⟩:=hk e w' hr
 exact hk
end
section
open Go.RowKit

theorem AY {p:Prop} (h:p):Hid p:=h
def nT:Tr:=⟨true,[],[],[],[]⟩
def oT:Tr:=⟨false,[],[],[],[]⟩
theorem Xh:okT nT=true:=by decide
theorem ok8 {N:Nat} {w:World} {F:Nat->Prop} {x:TV} {T:Tr} (h:Au N w F x T) (ho:okT T=true):Au 8 w F x T:=(Au.down (L7 ho).1 h).le (by have:=(L7 ho).2.1;omega)
theorem sz8 {T:Tr} (ho:okT T=true):AU 8 T<=1000000:=by
 obtain⟨h1,h2,h3⟩:=L7 ho
 exact Nat.le_trans (Sk h1 (by omega)) (by omega)
theorem NV (b:Bool) (w:World) (F:Nat->Prop):Au 8 w F ⟨b, .slice none 0 0, .slice none 0 0, .slice none 0 0, .slice none 0 0⟩ ⟨b,[],[],[],[]⟩:=
 ⟨rfl,Al.nil _ _ _ _,Al.nil _ _ _ _,Al.nil _ _ _ _,fun g hg=>by rcases hg with h|h|h|h<;>exact absurd h (Sz g),[],fun _ _=>False,rfl,Al.nil _ _ _ _,fun i hi=>absurd hi (Nat.not_lt_zero _),fun _ _ _ h=>h.elim,fun _ _ _ _ _ h=>h.elim⟩
def D8 (l:List (Int × Int)):Tr:=l.foldl (fun T p=>EK T (1,p.1,p.2)) nT
theorem Ic (l:List (Int × Int)):okT (D8 l)=true:=by
 suffices h:∀(l:List (Int × Int)) T,okT T=true->okT (l.foldl (fun T p=>EK T (1,p.1,p.2)) T)=true from h l nT Xh
 intro l;induction l with
 |nil=>exact fun T h=>h
 |cons p l ih=>exact fun T h=>ih _ (V7 h _)
theorem Nl (l:List (Int × Int)) (j:Nat) (h:j<l.length):EK (D8 (l.take j)) (1,kOf l j,vOf l j)=D8 (l.take (j+1)):=by
 unfold D8;rw[List.take_succ_eq_append_getElem h,List.foldl_append]
 simp[kOf,vOf,List.getD,h]
def Cy (l:List (Int × Int)):Bool:=Bh l&&decide (De (D8 l)=l)
def CF (l:List (Int × Int)):Tr:=if Cy l=true then D8 l else oT
theorem RZ {w:World} {b:Nat} {A:Array Value} {t:TypeId} (h:w.heap[b]? =some (.cells A t (0,0))):w.rangeAt b 0 A.toList:=fun j v hv=>by
 rw[Nat.zero_add,cell_of_row _ _ j _ t (0,0) h]
 simpa using hv
theorem Hu {w:World} {b:Nat} {A:Array Value} {t:TypeId} (h:w.heap[b]? =some (.cells A t (0,0))) {k:Nat} (hk:A.size=k):w.there b 0 k:=fun j hj=>by
 subst hk;rw[Nat.zero_add,cell_of_row _ _ j _ t (0,0) h]
 exact⟨by simp[hj],frozen_of_row w b j A t h⟩
theorem Xs {cur:Array Value} {vs:List Value} (h:cur.size=vs.length):spl cur 0 vs=vs.toArray:=by
 have:=DV vs cur 0 (by omega)
 simp only[List.take_zero,List.nil_append,Nat.zero_add] at this
 rw[List.drop_eq_nil_of_le (by simp;omega),List.append_nil] at this
 apply Array.ext'
 simpa using this
theorem Qr {W:World} {R:Nat} {t:TypeId} {A:Array Value} (h:W.heap[R]? =some (.cells A t (0,0))) (vs:List Value) (hn:A.size=vs.length):(W.setCells R 0 vs).heap[R]? =some (.cells vs.toArray t (0,0)):=by
 have:=Bu R t vs 0 W A h
 rw[Xs hn] at this
 exact this
theorem stepB {w w' :World} {B:Nat} {o:Obj} (h:w.heap[B]? =some o) (hb:Below w.heap.size w w'):w'.heap[B]? =some o:=(hb.block B (Array.getElem?_eq_some_iff.1 h).1).trans h
theorem UQ {P:Program} {fn:Func} {p q:Tmp} {ty:TypeId} (h:fn.results= #[.cell p ty, .tmp q]) (tmps:Array Value) (w:World) (g:Nat) (t:TypeId) (cs:Array Value) (fr:Nat × Nat) (d:TypeDesc)
  (hp:tmps.getD p undef= .pointer (some ⟨g,0,none⟩)) (hg:w.heap[g]? =some (.cells cs t fr))
  (hu:P.underlying ty=some d) (hd:(match d with| .struct _| .array _ _=>true|_=>false)=true) (hi:(P.info? ty).map (·.size)=some cs.size) :
  (results fn tmps).run P w= .ok (.tuple #[.agg cs,tmps.getD q undef]) w:=by
 have hp' :tmps[p]?.getD undef= .pointer (some ⟨g,0,none⟩):=by simpa using hp
 simp[results,h,hp',asAddr,run_loadVar_row w g t ty cs fr d hg hu hd hi]
theorem Ck (W:World) (R:Nat) (vs:List Value):Chg (fun g=>g=R) W (W.setCells R 0 vs):=Chg.setCells (F:=fun g=>g=R) (g:=R) (fun _=>rfl) vs 0 W (Chg.refl _ _)
theorem Au.slb {n:Nat} {w:World} {F:Nat->Prop} {x:TV} {T:Tr} (h:Au n w F x T):∃(b:Bool) (x1 x2 x3 x4:Option Addr × Nat × Nat),x=⟨b, .slice x1.1 x1.2.1 x1.2.2, .slice x2.1 x2.2.1 x2.2.2, .slice x3.1 x3.2.1 x3.2.2, .slice x4.1 x4.2.1 x4.2.2⟩:=by
 obtain⟨a1,a2,a3,a4,b1,b2,b3,b4,hy⟩:=h.treeF.treeAt.shape
 exact⟨_,(a1,_,b1),(a2,_,b2),(a3,_,b3),(a4,_,b4),hy⟩
end
section
open Go.RowKit

theorem Te (w:World):Calls Tryz.prog 7 #[] w fun e w' =>e= .returned (.agg #[.bool true, .slice none 0 0, .slice none 0 0, .slice none 0 0, .slice none 0 0])/\Below w.heap.size w w' :=by
 go_enter Tryz.func7,Tryz.ntmps7
 go_wp2;refine bodyPost_ret (v:= .agg #[.bool true, .slice none 0 0, .slice none 0 0, .slice none 0 0, .slice none 0 0]) (by simp[results,Tryz.results7,go_sem]) rfl ⟨rfl,(Below.refl _ _).alloc (Nat.le_refl _) _⟩

theorem Od (II:∀(x:TV) (T:Tr) (F:Nat->Prop) (k v:Int) (u:World),Au 8 u F x T->AU 8 T<=1048576->Calls Tryz.prog 9 #[x.val, .agg #[.int .i64 1, .int .i64 k, .int .i64 v]] u fun e w' =>∃(y:TV) (N:Nat),e= .returned y.val/\Au N w' (fun g=>u.heap.size<=g) y (EK T (1,k,v))/\Below u.heap.size u w')
  (TM:∀(x:TV) (T:Tr) (u:World),AA 8 u x T->AU 8 T<=1048576->Calls Tryz.prog 12 #[x.val] u fun e w' =>∃v',e= .returned v' ∧w'.ownsRow u.heap.size 41 2 v' (De T).length (Ai (De T))/\Below u.heap.size u w')
  (v:Value) (l:List (Int × Int)) (w:World) (h:Row w v l.length (Ai l)) (hn:l.length<=1048576) :
  Calls Tryz.prog 17 #[v] w fun e w' =>∃y:TV,e= .returned (.tuple #[y.val, .bool (Cy l)])/\Au 8 w' (fun g=>w.heap.size<=g) y (CF l)/\Below w.heap.size w w' :=by
 obtain⟨a,b,off,cap,rfl,hcap,hmax,ha,hk,hv⟩:=h.pairs
 unfold maxLen at hmax;have MO:Hid (∀u,Below w.heap.size w u->Calls Tryz.prog 43 #[.slice a l.length cap] u fun e w' =>e= .returned (.bool (Bh l))/\Below u.heap.size u w'):=fun u hu=>Fk _ l u (h.below hu)
 have EQ:Hid (∀u v' ,Below w.heap.size w u->Row u v' (De (D8 l)).length (Ai (De (D8 l)))->Calls Tryz.prog 44 #[v', .slice a l.length cap] u fun e w' =>e= .returned (.bool (decide (De (D8 l)=l)))/\Below u.heap.size u w'):=fun u v' hu hr=>Rf v' _ (De (D8 l)) l u hr (h.below hu)
 have KV:Hid (∀j u,Below w.heap.size w u->j<l.length->u.cell? ⟨b,off+j*2,none⟩=some (.int .i64 (kOf l j))/\u.cell? ⟨b,off+j*2+1,none⟩=some (.int .i64 (vOf l j))):=fun j u hu hj=>⟨(hu.cell (Aa (hk j hj))).trans (hk j hj),(hu.cell (Aa (hv j hj))).trans (hv j hj)⟩
 have HA:=AY ha
 have IJ:=AY II
 have TMM:=AY TM
 have LT:Hid (l.take l.length=l):=List.take_length
 have L0:Hid (D8 (l.take 0)=nT):=rfl
 have BS:Hid (∀j,j<l.length->EK (D8 (l.take j)) (1,kOf l j,vOf l j)=D8 (l.take (j+1))):=fun j hj=>Nl l j hj
 have B1:Hid (Below w.heap.size w (w.alloc (.cells #[.bool false, .slice none 0 0, .slice none 0 0, .slice none 0 0, .slice none 0 0] 30))):=(Below.refl _ _).alloc (Nat.le_refl _) _
 have Y1:Hid ((w.alloc (.cells #[.bool false, .slice none 0 0, .slice none 0 0, .slice none 0 0, .slice none 0 0] 30)).heap[w.heap.size]? =some (.cells #[.bool false, .slice none 0 0, .slice none 0 0, .slice none 0 0, .slice none 0 0] 30 (0,0))):=heap_alloc_new w _
 have zw:Hid (w.heap.size<(w.alloc (.cells #[.bool false, .slice none 0 0, .slice none 0 0, .slice none 0 0, .slice none 0 0] 30)).heap.size):=by show _<_;simp
 have HN:=AY hn
 clear h hk hv ha II TM hn;generalize hL:l.length=L at *
 have HL:=AY hL
 clear hL;go_enter Tryz.func17,Tryz.ntmps17
 go_wp2_with fail;refine(MO.out _ B1.out).mono ?_
 rintro e w1 ⟨rfl,b1⟩
 replace Y1:=AY (stepB Y1.out b1)
 replace B1:=AY (Below.and B1.out b1)
 replace zw:=AY (Nat.lt_of_lt_of_le zw.out b1.size)
 clear b1 MO
 cases hm:Bh l
 ·have BF:Hid (Cy l=false):=by show _=_;unfold Cy;rw[hm];rfl
  clear hm;go_upto_region 2 with fail
  have TH:Hid (w1.there w.heap.size 0 (List.toArray ([.bool false, .slice none 0 0, .slice none 0 0, .slice none 0 0, .slice none 0 0]:List Value)).size):=Hu Y1.out rfl
  have XF:Hid ((w1.setCells w.heap.size 0 ([.bool false, .slice none 0 0, .slice none 0 0, .slice none 0 0, .slice none 0 0]:List Value)).heap[w.heap.size]? =some (.cells (List.toArray ([.bool false, .slice none 0 0, .slice none 0 0, .slice none 0 0, .slice none 0 0]:List Value)) 30 (0,0))):=Qr Y1.out _ rfl
  have HM:Hid ((Tryz.prog.info? 30).map (·.size)=some (List.toArray ([.bool false, .slice none 0 0, .slice none 0 0, .slice none 0 0, .slice none 0 0]:List Value)).size):=(show(Tryz.prog.info? 30).map (·.size)=some 5 by kernel_rfl)
  have AL:Hid ((List.toArray ([.bool false, .slice none 0 0, .slice none 0 0, .slice none 0 0, .slice none 0 0]:List Value)).all (·.oneCell')=true):=by show _=_;simp[Value.oneCell']
  have FIN:Hid (∃y:TV,Value.agg (List.toArray ([.bool false, .slice none 0 0, .slice none 0 0, .slice none 0 0, .slice none 0 0]:List Value))=y.val/\Au 8 (w1.setCells w.heap.size 0 ([.bool false, .slice none 0 0, .slice none 0 0, .slice none 0 0, .slice none 0 0]:List Value)) (fun g=>w.heap.size<=g) y (CF l)/\Below w.heap.size w (w1.setCells w.heap.size 0 ([.bool false, .slice none 0 0, .slice none 0 0, .slice none 0 0, .slice none 0 0]:List Value))):=⟨⟨false, .slice none 0 0, .slice none 0 0, .slice none 0 0, .slice none 0 0⟩,rfl,by unfold CF;rw[BF.out];exact NV false _ _,B1.out.trans ((Ck _ _ _).below (fun g _ hg=>by omega) B1.out.size)⟩
  clear Y1 B1;go_wp2_with (refine wpList_store_mid rfl 30 _ _ rfl w.heap.size 0 (List.toArray ([.bool false, .slice none 0 0, .slice none 0 0, .slice none 0 0, .slice none 0 0]:List Value)) rfl rfl TH.out HM.out AL.out ?_)
  generalize (w1.setCells w.heap.size 0 ([.bool false, .slice none 0 0, .slice none 0 0, .slice none 0 0, .slice none 0 0]:List Value))=WF at *
  exact⟨rfl,_,UQ Tryz.results17 _ WF w.heap.size 30 _ (0,0) _ rfl XF.out Tryz.underlying30 rfl HM.out,(by obtain⟨y,e,r⟩:=FIN.out;exact⟨y,by rw[←e,BF.out];rfl,r⟩)⟩
 have HM1:=AY hm
 clear hm;go_wp2_with fail;refine(Te _).mono ?_
 rintro e w2 ⟨rfl,b2⟩
 have na:Below w2.heap.size w2 (w2.alloc (.cells #[.bool true, .slice none 0 0, .slice none 0 0, .slice none 0 0, .slice none 0 0] 30)):=(Below.refl _ _).alloc (Nat.le_refl _) _
 have XN:Hid ((w2.alloc (.cells #[.bool true, .slice none 0 0, .slice none 0 0, .slice none 0 0, .slice none 0 0] 30)).heap[w2.heap.size]? =some (.cells #[.bool true, .slice none 0 0, .slice none 0 0, .slice none 0 0, .slice none 0 0] 30 (0,0))):=heap_alloc_new w2 _
 replace Y1:=AY (stepB (stepB Y1.out b2) na)
 replace B1:=AY (Below.and (Below.and B1.out b2) na)
 have zn:Hid (w.heap.size<w2.heap.size):=Nat.lt_of_lt_of_le zw.out b2.size
 have zm:Hid (w2.heap.size<(w2.alloc (.cells #[.bool true, .slice none 0 0, .slice none 0 0, .slice none 0 0, .slice none 0 0] 30)).heap.size):=by show _<_;simp
 clear b2 na zw;go_upto_region 4 with fail
 generalize w2.alloc (.cells #[.bool true, .slice none 0 0, .slice none 0 0, .slice none 0 0, .slice none 0 0] 30)=W at *
 generalize w2.heap.size=NT at *
 go_wp2;go_loopw [14] (fun i wr=>∃(j:Nat) (yl:Bool) (y1 y2 y3 y4:Option Addr × Nat × Nat),i= .int .i64 j/\j<=L/\Hid (Au 8 wr (fun g=>NT<g) (⟨yl, .slice y1.1 y1.2.1 y1.2.2, .slice y2.1 y2.2.1 y2.2.2, .slice y3.1 y3.2.1 y3.2.2, .slice y4.1 y4.2.1 y4.2.2⟩:TV) (D8 (l.take j)))/\Hid (wr.heap[NT]? =some (.cells #[.bool yl, .slice y1.1 y1.2.1 y1.2.2, .slice y2.1 y2.2.1 y2.2.2, .slice y3.1 y3.2.1 y3.2.2, .slice y4.1 y4.2.1 y4.2.2] 30 (0,0)))/\Hid (wr.heap[w.heap.size]? =some (.cells #[.bool false, .slice none 0 0, .slice none 0 0, .slice none 0 0, .slice none 0 0] 30 (0,0)))/\Hid (Below w.heap.size w wr)/\Hid (NT<wr.heap.size))
  (fun i _=>L-(intOf i).toNat)
 case atStart=>exact⟨0,true,(none,0,0),(none,0,0),(none,0,0),(none,0,0),rfl,Nat.zero_le _,by show Au _ _ _ _ _;rw[L0.out];exact NV true _ _,XN.out,Y1.out,B1.out,zm.out⟩
 case round=>
  obtain⟨j,yl,y1,y2,y3,y4,rfl,hj,TD,XT,YR,BW,ZN⟩:=hrel
  clear XN Y1 B1 zm;by_cases hlt:j<L
  ·have hal:=HA.out (by omega)
   subst hal;obtain⟨d0,d1⟩:=KV.out j wr BW.out hlt
   have hj1:(j:Int)<(L:Int):=by omega
   have bs:=AY (BS.out j hlt)
   have OK1:=AY (Ic (l.take j))
   have na:Below wr.heap.size wr (wr.alloc (.cells #[.int .i64 (kOf l j), .int .i64 (vOf l j)] 41)):=(Below.refl _ _).alloc (Nat.le_refl _) _
   have PB:Hid ((wr.alloc (.cells #[.int .i64 (kOf l j), .int .i64 (vOf l j)] 41)).heap[wr.heap.size]? =some (.cells #[.int .i64 (kOf l j), .int .i64 (vOf l j)] 41 (0,0))):=heap_alloc_new wr _
   replace TD:=AY (TD.out.below na)
   replace XT:=AY (stepB XT.out na)
   replace YR:=AY (stepB YR.out na)
   replace BW:=AY (Below.and BW.out na)
   replace ZN:=AY (Nat.lt_of_lt_of_le ZN.out na.size)
   clear na;go_upto_region 7 with fail
   generalize (wr.alloc (.cells #[.int .i64 (kOf l j), .int .i64 (vOf l j)] 41))=V at *
   generalize wr.heap.size=PP at *
   have c1:=fun i=>Ac (j:=i) XT.out
   have p1:=fun i=>Ac (j:=i) PB.out
   have C:=AY (IJ.out (⟨yl, .slice y1.1 y1.2.1 y1.2.2, .slice y2.1 y2.2.1 y2.2.2, .slice y3.1 y3.2.1 y3.2.2, .slice y4.1 y4.2.1 y4.2.2⟩:TV) (D8 (l.take j)) _ (kOf l j) (vOf l j) V TD.out (by have:=sz8 OK1.out;omega))
   go_wp2_with fail;refine C.out.mono ?_
   rintro e w3 ⟨z,NN,rfl,td,b3⟩
   rw[bs.out] at td
   replace td:=ok8 td (Ic _)
   obtain⟨zl,z1,z2,z3,z4,hz⟩:=td.slb
   obtain⟨zs,hzs⟩:∃zs:List Value,zs=([.bool zl, .slice z1.1 z1.2.1 z1.2.2, .slice z2.1 z2.2.1 z2.2.2, .slice z3.1 z3.2.1 z3.2.2, .slice z4.1 z4.2.1 z4.2.2]:List Value):=⟨_,rfl⟩
   have zv:z.val= .agg zs.toArray:=by rw[hz,hzs]
   rw[zv]
   replace XT:=AY (stepB XT.out b3)
   replace YR:=AY (stepB YR.out b3)
   replace BW:=AY (Below.and BW.out b3)
   have TD3:=AY (td.mono (G:=fun g=>NT<g) (fun g hg=>Nat.lt_of_lt_of_le ZN.out hg))
   replace ZN:=AY (Nat.lt_of_lt_of_le ZN.out b3.size)
   have TH:Hid (w3.there NT 0 zs.toArray.size):=Hu XT.out (by rw[hzs];rfl)
   have HM:Hid ((Tryz.prog.info? 30).map (·.size)=some zs.toArray.size):=by rw[hzs];exact(show(Tryz.prog.info? 30).map (·.size)=some 5 by kernel_rfl)
   have AL:Hid (zs.toArray.all (·.oneCell')=true):=by show _=_;rw[hzs];simp[Value.oneCell']
   have XT4:Hid ((w3.setCells NT 0 zs).heap[NT]? =some (.cells zs.toArray 30 (0,0))):=Qr XT.out _ (by rw[hzs];rfl)
   have GC:=Ck w3 NT zs
   have YR4:=AY (Fl (F:=fun g=>g=NT) YR.out GC (by have:=zn.out;omega))
   have BW4:=AY (BW.out.trans (GC.below (fun g _ e=>by have:=zn.out;omega) BW.out.size))
   have TD4:=AY (TD3.out.chg GC (fun g hg e=>by omega))
   have ZN4:Hid (NT<(w3.setCells NT 0 zs).heap.size):=Nat.lt_of_lt_of_le ZN.out GC.size
   have ZE:=AY (And.intro hz hzs)
   clear GC XT YR BW TD3 ZN TD td b3 C c1 p1 PB hz hzs zv;go_wp2_with (refine wpList_store_mid rfl 30 _ _ rfl NT 0 zs.toArray rfl rfl TH.out HM.out AL.out ?_)
   generalize w3.setCells NT 0 zs=V4 at *
   go_roundw
   case rel=>exact⟨j+1,zl,z1,z2,z3,z4,by go_num,by omega,by have:=TD4.out;rw[ZE.out.1] at this;exact this,by have:=XT4.out;rw[ZE.out.2] at this;exact this,YR4.out,BW4.out,ZN4.out⟩
   case measure=>simp[intOf];omega
  ·have hjL:j=L:=by omega
   have TD2:Hid (Au 8 wr (fun g=>NT<g) (⟨yl, .slice y1.1 y1.2.1 y1.2.2, .slice y2.1 y2.2.1 y2.2.2, .slice y3.1 y3.2.1 y3.2.2, .slice y4.1 y4.2.1 y4.2.2⟩:TV) (D8 l)):=by have:=TD.out;rw[hjL,LT.out] at this;exact this
   have hj2:¬(j:Int)<(L:Int):=by omega
   clear TD KV HA BS;have c1:=fun i=>Ac (j:=i) XT.out
   have OK2:=AY (Ic l)
   have TA:=AY (TMM.out (⟨yl, .slice y1.1 y1.2.1 y1.2.2, .slice y2.1 y2.2.1 y2.2.2, .slice y3.1 y3.2.1 y3.2.2, .slice y4.1 y4.2.1 y4.2.2⟩:TV) (D8 l) wr TD2.out.treeF.treeAt (by have:=sz8 OK2.out;omega))
   go_wp2_with fail;refine TA.out.mono ?_
   rintro e w5 ⟨v5,rfl,o5,b5⟩
   have E5:=AY (EQ.out w5 v5 (Below.and BW.out b5) (Row.of_owns o5))
   replace XT:=AY (stepB XT.out b5)
   replace YR:=AY (stepB YR.out b5)
   replace BW:=AY (Below.and BW.out b5)
   replace TD2:=AY (TD2.out.below b5)
   clear b5 o5 c1 TA;go_wp2_with fail;refine E5.out.mono ?_
   rintro e w6 ⟨rfl,b6⟩
   replace XT:=AY (stepB XT.out b6)
   replace YR:=AY (stepB YR.out b6)
   replace BW:=AY (Below.and BW.out b6)
   replace TD2:=AY (TD2.out.below b6)
   clear b6 E5 EQ;by_cases he:De (D8 l)=l
   ·have BF:Hid (Cy l=true):=by show _=_;unfold Cy;rw[HM1.out];simpa using he
    have hd:decide (De (D8 l)=l)=true:=by simpa using he
    rw[hd]
    clear he hd;have RG:Hid (w6.rangeAt NT 0 ([.bool yl, .slice y1.1 y1.2.1 y1.2.2, .slice y2.1 y2.2.1 y2.2.2, .slice y3.1 y3.2.1 y3.2.2, .slice y4.1 y4.2.1 y4.2.2]:List Value)):=RZ XT.out
    have TH:Hid (w6.there w.heap.size 0 (List.toArray ([.bool yl, .slice y1.1 y1.2.1 y1.2.2, .slice y2.1 y2.2.1 y2.2.2, .slice y3.1 y3.2.1 y3.2.2, .slice y4.1 y4.2.1 y4.2.2]:List Value)).size):=Hu YR.out rfl
    have XF:Hid ((w6.setCells w.heap.size 0 ([.bool yl, .slice y1.1 y1.2.1 y1.2.2, .slice y2.1 y2.2.1 y2.2.2, .slice y3.1 y3.2.1 y3.2.2, .slice y4.1 y4.2.1 y4.2.2]:List Value)).heap[w.heap.size]? =some (.cells (List.toArray ([.bool yl, .slice y1.1 y1.2.1 y1.2.2, .slice y2.1 y2.2.1 y2.2.2, .slice y3.1 y3.2.1 y3.2.2, .slice y4.1 y4.2.1 y4.2.2]:List Value)) 30 (0,0))):=Qr YR.out _ rfl
    have HM:Hid ((Tryz.prog.info? 30).map (·.size)=some (List.toArray ([.bool yl, .slice y1.1 y1.2.1 y1.2.2, .slice y2.1 y2.2.1 y2.2.2, .slice y3.1 y3.2.1 y3.2.2, .slice y4.1 y4.2.1 y4.2.2]:List Value)).size):=(show(Tryz.prog.info? 30).map (·.size)=some 5 by kernel_rfl)
    have HM0:Hid ((Tryz.prog.info? 30).map (·.size)=some (List.length ([.bool yl, .slice y1.1 y1.2.1 y1.2.2, .slice y2.1 y2.2.1 y2.2.2, .slice y3.1 y3.2.1 y3.2.2, .slice y4.1 y4.2.1 y4.2.2]:List Value))):=(show(Tryz.prog.info? 30).map (·.size)=some 5 by kernel_rfl)
    have AL:Hid ((List.toArray ([.bool yl, .slice y1.1 y1.2.1 y1.2.2, .slice y2.1 y2.2.1 y2.2.2, .slice y3.1 y3.2.1 y3.2.2, .slice y4.1 y4.2.1 y4.2.2]:List Value)).all (·.oneCell')=true):=by show _=_;simp[Value.oneCell']
    have FIN:Hid (∃y:TV,Value.agg (List.toArray ([.bool yl, .slice y1.1 y1.2.1 y1.2.2, .slice y2.1 y2.2.1 y2.2.2, .slice y3.1 y3.2.1 y3.2.2, .slice y4.1 y4.2.1 y4.2.2]:List Value))=y.val/\Au 8 (w6.setCells w.heap.size 0 ([.bool yl, .slice y1.1 y1.2.1 y1.2.2, .slice y2.1 y2.2.1 y2.2.2, .slice y3.1 y3.2.1 y3.2.2, .slice y4.1 y4.2.1 y4.2.2]:List Value)) (fun g=>w.heap.size<=g) y (CF l)/\Below w.heap.size w (w6.setCells w.heap.size 0 ([.bool yl, .slice y1.1 y1.2.1 y1.2.2, .slice y2.1 y2.2.1 y2.2.2, .slice y3.1 y3.2.1 y3.2.2, .slice y4.1 y4.2.1 y4.2.2]:List Value))):=⟨(⟨yl, .slice y1.1 y1.2.1 y1.2.2, .slice y2.1 y2.2.1 y2.2.2, .slice y3.1 y3.2.1 y3.2.2, .slice y4.1 y4.2.1 y4.2.2⟩:TV),rfl,by unfold CF;rw[BF.out];exact(TD2.out.chg (Ck _ _ _) (fun g hg e=>by have:=zn.out;omega)).mono (fun g hg=>by have:=zn.out;omega),BW.out.trans ((Ck _ _ _).below (fun g _ hg=>by omega) BW.out.size)⟩
    clear XT YR BW TD2;go_wp2_with (first|(refine wpList_load_mid rfl 30 _ rfl NT 0 rfl ([.bool yl, .slice y1.1 y1.2.1 y1.2.2, .slice y2.1 y2.2.1 y2.2.2, .slice y3.1 y3.2.1 y3.2.2, .slice y4.1 y4.2.1 y4.2.2]:List Value) _ RG.out Tryz.underlying30 rfl HM0.out ?_)|(refine wpList_store_mid rfl 30 _ _ rfl w.heap.size 0 (List.toArray ([.bool yl, .slice y1.1 y1.2.1 y1.2.2, .slice y2.1 y2.2.1 y2.2.2, .slice y3.1 y3.2.1 y3.2.2, .slice y4.1 y4.2.1 y4.2.2]:List Value)) rfl rfl TH.out HM.out AL.out ?_))
    generalize w6.setCells w.heap.size 0 ([.bool yl, .slice y1.1 y1.2.1 y1.2.2, .slice y2.1 y2.2.1 y2.2.2, .slice y3.1 y3.2.1 y3.2.2, .slice y4.1 y4.2.1 y4.2.2]:List Value)=WF at *
    exact⟨rfl,_,UQ Tryz.results17 _ WF w.heap.size 30 _ (0,0) _ rfl XF.out Tryz.underlying30 rfl HM.out,(by obtain⟨y,e,r⟩:=FIN.out;exact⟨y,by rw[←e,BF.out];rfl,r⟩)⟩
   ·have BF:Hid (Cy l=false):=by show _=_;unfold Cy;simp[he]
    have hd:decide (De (D8 l)=l)=false:=by simpa using he
    rw[hd]
    clear he hd XT TD2;go_upto_region 10 with fail
    have TH:Hid (w6.there w.heap.size 0 (List.toArray ([.bool false, .slice none 0 0, .slice none 0 0, .slice none 0 0, .slice none 0 0]:List Value)).size):=Hu YR.out rfl
    have XF:Hid ((w6.setCells w.heap.size 0 ([.bool false, .slice none 0 0, .slice none 0 0, .slice none 0 0, .slice none 0 0]:List Value)).heap[w.heap.size]? =some (.cells (List.toArray ([.bool false, .slice none 0 0, .slice none 0 0, .slice none 0 0, .slice none 0 0]:List Value)) 30 (0,0))):=Qr YR.out _ rfl
    have HM:Hid ((Tryz.prog.info? 30).map (·.size)=some (List.toArray ([.bool false, .slice none 0 0, .slice none 0 0, .slice none 0 0, .slice none 0 0]:List Value)).size):=(show(Tryz.prog.info? 30).map (·.size)=some 5 by kernel_rfl)
    have AL:Hid ((List.toArray ([.bool false, .slice none 0 0, .slice none 0 0, .slice none 0 0, .slice none 0 0]:List Value)).all (·.oneCell')=true):=by show _=_;simp[Value.oneCell']
    have FIN:Hid (∃y:TV,Value.agg (List.toArray ([.bool false, .slice none 0 0, .slice none 0 0, .slice none 0 0, .slice none 0 0]:List Value))=y.val/\Au 8 (w6.setCells w.heap.size 0 ([.bool false, .slice none 0 0, .slice none 0 0, .slice none 0 0, .slice none 0 0]:List Value)) (fun g=>w.heap.size<=g) y (CF l)/\Below w.heap.size w (w6.setCells w.heap.size 0 ([.bool false, .slice none 0 0, .slice none 0 0, .slice none 0 0, .slice none 0 0]:List Value))):=⟨⟨false, .slice none 0 0, .slice none 0 0, .slice none 0 0, .slice none 0 0⟩,rfl,by unfold CF;rw[BF.out];exact NV false _ _,BW.out.trans ((Ck _ _ _).below (fun g _ hg=>by omega) BW.out.size)⟩
    clear YR BW;go_wp2_with (refine wpList_store_mid rfl 30 _ _ rfl w.heap.size 0 (List.toArray ([.bool false, .slice none 0 0, .slice none 0 0, .slice none 0 0, .slice none 0 0]:List Value)) rfl rfl TH.out HM.out AL.out ?_)
    generalize (w6.setCells w.heap.size 0 ([.bool false, .slice none 0 0, .slice none 0 0, .slice none 0 0, .slice none 0 0]:List Value))=WF at *
    exact⟨rfl,_,UQ Tryz.results17 _ WF w.heap.size 30 _ (0,0) _ rfl XF.out Tryz.underlying30 rfl HM.out,(by obtain⟨y,e,r⟩:=FIN.out;exact⟨y,by rw[←e,BF.out];rfl,r⟩)⟩
end
end Go.Proofs.YtadmomgdacfgpaaGreat
