/-
  l4Give at all depths; the contract of the model's l4Root.
  The contract of the model's l4Drain.
  What the model's Inject and Drain make of a tree, as plain functions.
  A call in a region by the callee's contract, without a walk.
  Build: what it makes, as plain data.
  Lists of what was done last as rows of cells; the laws' own functions on them, and slices.Equal of two.
  slices.Equal of two lists: pairs, and what was done; the model's l4SameMap.
-/
import Derived.Test.YtebglpllkjgjbaaGreatOfBuild22
import Derived.Test.YtebglpllkjgjbaaGreatOfBuild9
import Derived.Deep.LoopGhost
import Derived.Test.YtebglpllkjgjbaaGreatOfBuild18
import Derived.Test.YtebglpllkjgjbaaGreatOfBuild1
import Derived.WalkKit
import Derived.Test.YtebglpllkjgjbaaGreatOfBuild17
import Derived.Test.YtebglpllkjgjbaaGreatOfBuild11
import Derived.Test.YtebglpllkjgjbaaGreatOfBuild4
import Derived.Deep.MidRow
import Derived.Deep.RegionHeld3
import Derived.Test.YtebglpllkjgjbaaGreatOfBuild3
import Derived.Laws.StructEq
import Derived.BigQuiet
import Derived.Deep.QuietTactic
namespace Go.Proofs.YtebglpllkjgjbaaGreat
set_option maxRecDepth 100000
set_option maxHeartbeats 8000000
section
open Go.RowKit

theorem Ml:∀d,RI d
 |0=>fun _ _ _ _ _ _ _ _ h _ _=>h.elim
 |d+1=>by
  intro F x T vm ms w ht hm hs hp hn;rcases hs with⟨h1,rfl,h2,h3⟩|⟨h1,h0,h2,h3,h4,h5,h6⟩
  ·rw[Ad,if_pos h1]
   exact UR 0 F x T vm ms w ht hm h1 (by omega)
  ·rw[Ad,if_neg (by rw[h1];simp)]
   refine U6 (Ml d) (Xv (Ml d)) F x T vm ms w ht hm h1 ⟨h4,h6⟩ h2 ?_
   rw[wt,if_neg (by rw[h1];simp)] at hn
   exact hn

theorem WA {f:Nat} {m:TM} (h:4<m.1.length) (hf:m.1.length<=f):B9 f m=B9 (f-1) (CP m):=by
 cases f with
 |zero=>omega
 |succ f=>rw[B9,if_pos h,Nat.add_sub_cancel]
theorem U4 {f:Nat} {m:TM} (h:m.1.length=1) (hf:m.1.length<=f):B9 f m=m.1.getD 0 Aj:=by
 cases f with
 |zero=>omega
 |succ f=>rw[B9,if_neg (by omega),if_pos h]
theorem Vc {f:Nat} {m:TM} (h:¬4<m.1.length) (h1:¬m.1.length=1) (hp:0<m.1.length) (hf:m.1.length<=f):B9 f m=⟨false,[],m.2,m.1,[]⟩:=by
 cases f with
 |zero=>omega
 |succ f=>rw[B9,if_neg h,if_neg h1]

theorem Sm (d:Nat) (F:Nat->Prop) (vt vc:Value) (m:TM) (w:World) (ht:Ai d w F vt m.1) (hc:Ap w F vc m.2.length (Ac m.2)) (hm:MOk d m) (hn:wtL d m.1<=1000000) :
  Calls Tryz.prog 40 #[.agg #[vt,vc]] w fun e w' =>∃(x:TV),e= .returned x.val/\Ay (d+m.1.length) w' (fun b=>F b∨w.heap.size<=b) x (B9 m.1.length m)/\Below w.heap.size w w' :=by
 obtain⟨at0,qt0,hvt,_⟩:=(show Row w vt m.1.length _ from(ht.els.choose_spec.2).row).len
 obtain⟨ac0,qc0,hvc,_⟩:=hc.row.len
 subst hvt;subst hvc;have HT:Hid (Ai d w (fun b=>(F b/\b<w.heap.size)∨w.heap.size+2<=b) (.slice at0 m.1.length qt0) m.1):=ht.lt.mono (fun g hg=> .inl hg)
 have HC:Hid (Ap w (fun b=>(F b/\b<w.heap.size)∨w.heap.size+2<=b) (.slice ac0 m.2.length qc0) m.2.length (Ac m.2)):=(hc.lt (De _).2).mono (fun g hg=> .inl hg)
 have HM:Hid (MOk d m):=hm
 have HN:=hid (hn)
 generalize hR:B9 m.1.length m=R
 have HR:=hid (hR)
 generalize hD:d+m.1.length=D
 have HD:Hid (d+m.1.length<=D):=Nat.le_of_eq hD
 clear ht hc hm hn hR;have B0:Hid (Below w.heap.size w ((w.alloc (.cells #[.slice at0 m.1.length qt0, .slice ac0 m.2.length qc0] 62)).alloc (.cells #[.bool false, .slice none 0 0, .slice none 0 0, .slice none 0 0, .slice none 0 0] 29))):=al2 _ _ _
 have X0:Hid (Ar ((w.alloc (.cells #[.slice at0 m.1.length qt0, .slice ac0 m.2.length qc0] 62)).alloc (.cells #[.bool false, .slice none 0 0, .slice none 0 0, .slice none 0 0, .slice none 0 0] 29)) w.heap.size #[.slice at0 m.1.length qt0, .slice ac0 m.2.length qc0]):=(Ar.start w _).alloc _
 have X1:Hid (At ((w.alloc (.cells #[.slice at0 m.1.length qt0, .slice ac0 m.2.length qc0] 62)).alloc (.cells #[.bool false, .slice none 0 0, .slice none 0 0, .slice none 0 0, .slice none 0 0] 29)) (w.heap.size+1) #[.bool false, .slice none 0 0, .slice none 0 0, .slice none 0 0, .slice none 0 0]):=by
  have:=At.start (w.alloc (.cells #[.slice at0 m.1.length qt0, .slice ac0 m.2.length qc0] 62)) #[.bool false, .slice none 0 0, .slice none 0 0, .slice none 0 0, .slice none 0 0]
  rw[World.size_alloc] at this
  exact this
 have Z0:Hid (w.heap.size+2<=((w.alloc (.cells #[.slice at0 m.1.length qt0, .slice ac0 m.2.length qc0] 62)).alloc (.cells #[.bool false, .slice none 0 0, .slice none 0 0, .slice none 0 0, .slice none 0 0] 29)).heap.size):=by show _<=_;simp
 generalize hn1:m.1.length=n1 at *
 generalize hn2:m.2.length=n2 at *
 go_enter Tryz.func40,Tryz.ntmps40
 go_wp2;refine Fc (fun W=>Ar W w.heap.size #[.slice at0 n1 qt0, .slice ac0 n2 qc0]/\At W (w.heap.size+1) #[.bool false, .slice none 0 0, .slice none 0 0, .slice none 0 0, .slice none 0 0]/\Below w.heap.size w W/\w.heap.size+2<=W.heap.size) ⟨X0.out,X1.out,B0.out,Z0.out⟩ ?_
 rintro W ⟨Y0,Y1,YB,YZ⟩
 clear X0 X1 B0 Z0;go_loopg [] n1 (fun k wr=>∃(mm:TM) (d' f:Nat) (e1 e2:Option Addr) (p1 p2:Nat),k=mm.1.length/\Hid (Ar wr w.heap.size #[.slice e1 mm.1.length p1, .slice e2 mm.2.length p2])/\Hid (Ai d' wr (fun b=>(F b/\b<w.heap.size)∨w.heap.size+2<=b) (.slice e1 mm.1.length p1) mm.1)/\Hid (Ap wr (fun b=>(F b/\b<w.heap.size)∨w.heap.size+2<=b) (.slice e2 mm.2.length p2) mm.2.length (Ac mm.2))/\Hid (MOk d' mm)/\Hid (wtL d' mm.1<=1000000)/\Hid (B9 f mm=R)/\Hid (mm.1.length<=f)/\Hid (d' +mm.1.length<=D)/\Hid (At wr (w.heap.size+1) #[.bool false, .slice none 0 0, .slice none 0 0, .slice none 0 0, .slice none 0 0])/\Hid (Below w.heap.size w wr)/\Hid (w.heap.size+2<=wr.heap.size))
 case atStart=>exact⟨m,d,n1,at0,ac0,qt0,qc0,hn1.symm,by rw[hn1,hn2];exact Y0,by rw[hn1];exact HT.out.below YB,by rw[hn2];exact HC.out.below YB,HM,HN,HR,Nat.le_of_eq hn1,by rw[hn1];exact HD,Y1,YB,YZ⟩
 case round=>
  obtain⟨mm,d',f,e1,e2,p1,p2,rfl,BL,TM1,RM1,MO1,HW,HL,HF,HE,BR,BW,ZL⟩:=hrel
  clear Y0 Y1 YB YZ HT HC HM HN HR HD;have hmo:=MO1.out.1
  have hwl:=BH MO1.out.2
  have hww:=HW.out
  obtain⟨x0,x1⟩:=BL.out.two
  by_cases h4:4<mm.1.length
  ·have h4' :(4:Int)<(mm.1.length:Int):=by omega
   have HP:Hid _:=Ln d' _ _ _ mm wr TM1.out RM1.out hmo (by omega) (by omega)
   have PO:=H7 MO1.out (by omega)
   have HL1:Hid (B9 (f-1) (CP mm)=R):=by show _=_;rw[←WA h4 HF.out];exact HL.out
   have NX:Hid (MOk (d' +1) (CP mm)/\wtL (d' +1) (CP mm).1<=1000000/\(CP mm).1.length<=f-1/\d' +1+(CP mm).1.length<=D/\(CP mm).1.length<mm.1.length):=by
    have:=HF.out
    have:=HE.out
    exact⟨PO.1,by omega,by omega,by omega,by omega⟩
   clear PO;generalize CP mm=PM at *
   clear TM1 RM1 MO1 HL hwl hww HW HF HE;go_wp2_with fail;refine Calls.mono HP.out ?_
   rintro e w1 ⟨v1,v2,rfl,TP,RP,hb1⟩
   obtain⟨az,qz,hu1,_⟩:=(show Row w1 v1 PM.1.length _ from(TP.els.choose_spec.2).row).len
   obtain⟨ay,qy,hu2,_⟩:=RP.row.len
   subst hu1;subst hu2;have BL1:Hid (Ar w1 w.heap.size #[.slice e1 mm.1.length p1, .slice e2 mm.2.length p2]):=BL.out.step hb1 BL.out.lt
   have FIN:Hid (∀v v',Ai (d' +1) (set2 w1 w.heap.size v v') (fun b=>(F b/\b<w.heap.size)∨w.heap.size+2<=b) (.slice az PM.1.length qz) PM.1/\Ap (set2 w1 w.heap.size v v') (fun b=>(F b/\b<w.heap.size)∨w.heap.size+2<=b) (.slice ay PM.2.length qy) PM.2.length (Ac PM.2)/\At (set2 w1 w.heap.size v v') (w.heap.size+1) #[.bool false, .slice none 0 0, .slice none 0 0, .slice none 0 0, .slice none 0 0]/\Below w.heap.size w (set2 w1 w.heap.size v v')/\w.heap.size+2<=(set2 w1 w.heap.size v v').heap.size):=fun v v' =>by
    have hz:=ZL.out
    have hc:=D8 w1 w.heap.size v v'
    have hbw:=BW.out.size
    have hb1s:=hb1.size
    have hk:∀g,((fun b=>(F b/\b<w.heap.size)∨w.heap.size+2<=b) g∨wr.heap.size<=g)->¬g=w.heap.size/\((F g/\g<w.heap.size)∨w.heap.size+2<=g):=fun g hg=>by
     rcases hg with(⟨h1,h2⟩|h)|h
     ·exact⟨by omega, .inl ⟨h1,h2⟩⟩
     ·exact⟨by omega, .inr (by omega)⟩
     ·exact⟨by omega, .inr (by omega)⟩
    refine⟨(TP.chg hc (fun g hg=>(hk g hg).1)).mono (fun g hg=>(hk g hg).2),(RP.chg hc (fun g hg=>(hk g hg).1)).mono (fun g hg=>(hk g hg).2),(BR.out.stepB hb1 (by omega)).chg hc (by omega),(Below.and BW.out hb1).trans (hc.below (fun g _ hg=>by omega) (by omega)), ?_⟩
    have:=hc.size
    omega
   obtain⟨m0,m1⟩:=BL1.out.two
   obtain⟨f0,f1⟩:=BL1.out.free
   clear TP RP hb1 HP x0 x1 BL BR BW ZL;generalize hq1:PM.1.length=l1 at *
   generalize hq2:PM.2.length=l2 at *
   go_wp2;go_roundg l1
   case measure=>exact NX.out.2.2.2.2
   case rel=>exact⟨PM,d' +1,f-1,az,ay,qz,qy,hq1.symm,by rw[hq1,hq2];exact BL1.out.set2 _ _,by rw[hq1];exact(FIN.out _ _).1,by rw[hq2];exact(FIN.out _ _).2.1,NX.out.1,NX.out.2.1,HL1,by rw[hq1];exact NX.out.2.2.1,by rw[hq1];exact NX.out.2.2.2.1,(FIN.out _ _).2.2.1,(FIN.out _ _).2.2.2.1,(FIN.out _ _).2.2.2.2⟩
  ·have h4' :¬(4:Int)<(mm.1.length:Int):=by omega
   obtain⟨⟨m0,m1,m2,m3,m4⟩,f0,f1,f2,f3,f4⟩:=BG BR.out
   by_cases h1:mm.1.length=1
   ·have ER:R=mm.1.getD 0 Aj:=HL.out.symm.trans (U4 h1 HF.out)
    obtain⟨xs0,hxl,hrow,hel⟩:=TM1.out
    obtain⟨av,b1,off1,c1,hvt,hcap1,hmax1,ha1,d0,d1,d2,d3,d4⟩:=hrow.row.trees
    have KD:Hid (Ay d' wr (fun b=>(F b/\b<w.heap.size)∨w.heap.size+2<=b) (Al xs0 0) (mm.1.getD 0 Aj)):=hel 0 (by omega)
    have c0:=d0 0 (by omega)
    have c1' :=d1 0 (by omega)
    have c2:=d2 0 (by omega)
    have c3:=d3 0 (by omega)
    have c4:=d4 0 (by omega)
    have hav:=ha1 (by omega)
    subst hav;obtain⟨r1,r2,r3,r4,s1,s2,s3,s4,hy⟩:=KD.out.treeAt.shape
    rw[hy] at KD c0 c1' c2 c3 c4
    simp only[Nat.zero_mul,Nat.add_zero] at c0 c1' c2 c3 c4
    have hw1:((mm.1.length:Nat):Int)=1:=by omega
    have hv:(Value.slice e1 mm.1.length p1)= .slice (some ⟨b1,off1,none⟩) 1 c1:=by rw[hvt,hxl,h1]
    rw[hv] at BL x0
    have FIN:Hid (∀v0 v1 v2 v3 v4,Ay D (set5 wr (w.heap.size+1) v0 v1 v2 v3 v4) (fun b=>F b∨w.heap.size<=b) (⟨(mm.1.getD 0 Aj).leaf, .slice r1 (mm.1.getD 0 Aj).pairs.length s1, .slice r2 (mm.1.getD 0 Aj).cuts.length s2, .slice r3 (mm.1.getD 0 Aj).kids.length s3, .slice r4 (mm.1.getD 0 Aj).buf.length s4⟩:TV) R/\Below w.heap.size w (set5 wr (w.heap.size+1) v0 v1 v2 v3 v4)):=fun v0 v1 v2 v3 v4=>by
     have hc:=BE wr (w.heap.size+1) v0 v1 v2 v3 v4
     have hz:=ZL.out
     have hbw:=BW.out.size
     have he:=HE.out
     rw[ER]
     exact⟨((KD.out.chg hc (fun g hg k=>by rcases hg with h|h<;>omega)).mono (fun g hg=>hg.elim (fun h=> .inl h.1) (fun h=> .inr (by omega)))).le (by omega),BW.out.trans (hc.below (fun g _ hg=>by omega) (by omega))⟩
    generalize (mm.1.getD 0 Aj).leaf=z0 at *
    generalize (mm.1.getD 0 Aj).pairs.length=z1 at *
    generalize (mm.1.getD 0 Aj).cuts.length=z2 at *
    generalize (mm.1.getD 0 Aj).kids.length=z3 at *
    generalize (mm.1.getD 0 Aj).buf.length=z4 at *
    clear TM1 RM1 MO1 HL hwl hww HW HF HE BL BW ZL KD hrow hel d0 d1 d2 d3 d4 ha1 hvt hv hxl hy ER hmo;go_wp2;refine bodyPost_ret (v:= .agg #[.bool z0, .slice r1 z1 s1, .slice r2 z2 s2, .slice r3 z3 s3, .slice r4 z4 s4]) (by simp[results,Tryz.results40,go_sem,m0,m1,m2,m3,m4]) rfl ⟨⟨z0, .slice r1 z1 s1, .slice r2 z2 s2, .slice r3 z3 s3, .slice r4 z4 s4⟩,rfl,(FIN.out _ _ _ _ _).1,(FIN.out _ _ _ _ _).2⟩
   ·have ER:R=⟨false,[],mm.2,mm.1,[]⟩:=HL.out.symm.trans (Vc h4 h1 (by omega) HF.out)
    have h1' :¬((mm.1.length:Nat):Int)=1:=by omega
    have FIN:Hid (∀v0 v1 v2 v3 v4,Ay D (set5 wr (w.heap.size+1) v0 v1 v2 v3 v4) (fun b=>F b∨w.heap.size<=b) (⟨false, .slice none 0 0, .slice e2 mm.2.length p2, .slice e1 mm.1.length p1, .slice none 0 0⟩:TV) R/\Below w.heap.size w (set5 wr (w.heap.size+1) v0 v1 v2 v3 v4)):=fun v0 v1 v2 v3 v4=>by
     have hc:=BE wr (w.heap.size+1) v0 v1 v2 v3 v4
     have hz:=ZL.out
     have hbw:=BW.out.size
     have he:=HE.out
     rw[ER]
     have hk:∀g,(F g/\g<w.heap.size)∨w.heap.size+2<=g->¬g=w.heap.size+1/\(F g∨w.heap.size<=g):=fun g hg=>by
      rcases hg with⟨h1,h2⟩|h
      ·exact⟨by omega, .inl h1⟩
      ·exact⟨by omega, .inr (by omega)⟩
     refine⟨Ay.le (n:=d' +1) (Ay.mk rfl (Ap.nil _ _) ((RM1.out.chg hc (fun g hg=>(hk g hg).1)).mono (fun g hg=>(hk g hg).2)) (Ap.nil _ _) ((TM1.out.chg hc (fun g hg=>(hk g hg).1)).mono (fun g hg=>(hk g hg).2))) (by omega),BW.out.trans (hc.below (fun g _ hg=>by omega) (by omega))⟩
    clear TM1 RM1 MO1 HL hwl hww HW HF HE BL BW ZL ER hmo;generalize mm.1.length=l1 at *
    generalize mm.2.length=l2 at *
    go_wp2;refine bodyPost_ret (v:= .agg #[.bool false, .slice none 0 0, .slice e2 l2 p2, .slice e1 l1 p1, .slice none 0 0]) (by simp[results,Tryz.results40,go_sem,m0,m1,m2,m3,m4]) rfl ⟨⟨false, .slice none 0 0, .slice e2 l2 p2, .slice e1 l1 p1, .slice none 0 0⟩,rfl,(FIN.out _ _ _ _ _).1,(FIN.out _ _ _ _ _).2⟩
end
section
open Go.RowKit
end
section
open Go.RowKit

def EH (g:TM):Tr:=B9 g.1.length g
def EV (T:Tr) (m:Int × Int × Int):Tr:=
 if okT T=true/\AO m.1 m.2.1 m.2.2=true/\¬m.1=4 then (if okT (EH (Ad (Aw T) T [m]))=true then EH (Ad (Aw T) T [m]) else T) else T
def Zc (T:Tr):Tr:=if okT T=true then (if okT (EH (RV (Aw T) T))=true then EH (RV (Aw T) T) else T) else T

theorem Mu {T:Tr} (h:okT T=true):shT (Aw T) T/\Aw T<=7/\wt (Aw T) T+2<=49152:=by
 have h0:Aw T≠0:=by
  unfold okT at h;have:=of_decide_eq_true h
  omega
 have h1:shT (Aw T) T:=GG h0
 have h2:Aw T<=7:=GS _ _ _ _
 refine⟨h1,h2,Nat.le_trans (Yd _ _ h1) ?_⟩
 have:4^Aw T<=4^7:=Nat.pow_le_pow_right (by decide) h2
 omega

theorem JH:∀(e:Nat) (T:Tr),shT e T->∀n,e<=n->AQ n T=AQ e T
 |0,_,h,_,_=>h.elim
 |e+1,T,h,n,hn=>by
  cases n with
  |zero=>omega
  |succ n=>
   have hk:T.kids.map (AQ n)=T.kids.map (AQ e):=by
    rcases h with⟨_,_,_,_,h,_⟩|⟨_,_,_,_,_,_,h⟩
    ·rw[h];rfl
    ·exact List.map_congr_left fun t ht=>JH e t (h t ht) n (by omega)
   show T.pairs.length+(T.cuts.length+(T.kids.length+(T.kids.map (AQ n)).sum+T.buf.length))=T.pairs.length+(T.cuts.length+(T.kids.length+(T.kids.map (AQ e)).sum+T.buf.length))
   rw[hk]
theorem Ty {e:Nat} {T:Tr} (h:shT e T) {n:Nat} (hn:e<=n):AQ n T<=7*wt e T:=by
 rw[JH e T h n hn]
 have:=T9 e T h
 omega
theorem Aq.down:∀ {e n:Nat} {w:World} {F:Nat->Prop} {x:TV} {T:Tr},shT e T->Aq n w F x T->Aq e w F x T
 |0,_,_,_,_,_,h,_=>h.elim
 |_+1,0,_,_,_,_,_,h=>h.elim
 |e+1,n+1,w,F,x,T,hs,⟨h1,h2,h3,h4,h5,xs,K,k1,k2,k3,k4,k5⟩=>by
  refine⟨h1,h2,h3,h4,h5,xs,K,k1,k2,fun i hi=> ?_,k4,k5⟩
  rcases hs with⟨_,_,_,_,h,_⟩|⟨_,_,_,_,_,_,h⟩
  ·rw[k1,h] at hi;exact absurd hi (Nat.not_lt_zero _)
  ·exact Aq.down (h _ (Cy (by omega))) (k3 i hi)

theorem VE {d:Nat} {T:Tr} {ms:ML} (hs:shT d T) (hp:0<ms.length):∃e,e<=d+(Ad d T ms).1.length/\shT e (EH (Ad d T ms))/\wt e (EH (Ad d T ms))<=wt d T+ms.length:=by
 obtain⟨h1,h2⟩:=Ce d T ms hs hp
 obtain⟨e,_,e2,e3,e4⟩:=Qw _ d (Ad d T ms) h1 (Nat.le_refl _)
 exact⟨e,e2,e3,Nat.le_trans e4 h2⟩
theorem XW {T:Tr} (h:okT T=true) (m:Int × Int × Int):okT (EV T m)=true:=by
 unfold EV;split
 ·split
  ·assumption
  ·exact h
 ·exact h
end
section
open Go.RowKit

theorem K9 {P:Program} {o:Oper} {a:Act} {K:Act->World->Prop} {Q:Exit->Act->World->Prop} {w:World} {R:Ending->World->Prop} (f:FuncId) (xs:List Operand) (ats:Array TypeId)
  (ho:o.op= .call { callee:= .value (.func f),args:=xs.toArray,argTypes:=ats }) (hrun:∀args w,(callFunc f args).run P w= .ok (.enter f args) w) (args:List Value) (he:xs.map a.eval=args)
  (h:Calls P f args.toArray w R) (hk:∀e w',R e w' ->∃v,e= .returned v/\K (a.put o.dst v) w'):o.wp P a w K Q:=by
 have ef:a.eval (.func f)= .func (.func f) #[] #[]:=rfl
 have hx:execOp a.eval o=callFunc f args.toArray:=by
  unfold execOp;simp[ho,resolve,Deferred.ofValue,invoke,ef,he]
 unfold Oper.wp
 rw[hx,hrun,Oper.upon_enter]
 refine Calls.mono h ?_
 intro e w' hr;obtain⟨v,rfl,hk⟩:=hk e w' hr
 exact hk
end
section
open Go.RowKit

theorem As {p:Prop} (h:p):Hid p:=h
def nT:Tr:=⟨true,[],[],[],[]⟩
def oT:Tr:=⟨false,[],[],[],[]⟩
theorem Yx:okT nT=true:=by decide
theorem ok8 {N:Nat} {w:World} {F:Nat->Prop} {x:TV} {T:Tr} (h:Aq N w F x T) (ho:okT T=true):Aq 8 w F x T:=(Aq.down (Mu ho).1 h).le (by have:=(Mu ho).2.1;omega)
theorem sz8 {T:Tr} (ho:okT T=true):AQ 8 T<=1000000:=by
 obtain⟨h1,h2,h3⟩:=Mu ho
 exact Nat.le_trans (Ty h1 (by omega)) (by omega)
theorem Oj (b:Bool) (w:World) (F:Nat->Prop):Aq 8 w F ⟨b, .slice none 0 0, .slice none 0 0, .slice none 0 0, .slice none 0 0⟩ ⟨b,[],[],[],[]⟩:=
 ⟨rfl,Ak.nil _ _ _ _,Ak.nil _ _ _ _,Ak.nil _ _ _ _,fun g hg=>by rcases hg with h|h|h|h<;>exact absurd h (Uh g),[],fun _ _=>False,rfl,Ak.nil _ _ _ _,fun i hi=>absurd hi (Nat.not_lt_zero _),fun _ _ _ h=>h.elim,fun _ _ _ _ _ h=>h.elim⟩
def Ea (l:List (Int × Int)):Tr:=l.foldl (fun T p=>EV T (1,p.1,p.2)) nT
theorem Hf (l:List (Int × Int)):okT (Ea l)=true:=by
 suffices h:∀(l:List (Int × Int)) T,okT T=true->okT (l.foldl (fun T p=>EV T (1,p.1,p.2)) T)=true from h l nT Yx
 intro l;induction l with
 |nil=>exact fun T h=>h
 |cons p l ih=>exact fun T h=>ih _ (XW h _)
theorem NP (l:List (Int × Int)) (j:Nat) (h:j<l.length):EV (Ea (l.take j)) (1,kOf l j,vOf l j)=Ea (l.take (j+1)):=by
 unfold Ea;rw[List.take_succ_eq_append_getElem h,List.foldl_append]
 simp[kOf,vOf,List.getD,h]
def Db (l:List (Int × Int)):Bool:=Bf l&&decide (DZ (Ea l)=l)
def Bm (l:List (Int × Int)):Tr:=if Db l=true then Ea l else oT
theorem FJ {w:World} {b:Nat} {A:Array Value} {t:TypeId} (h:w.heap[b]? =some (.cells A t (0,0))):w.rangeAt b 0 A.toList:=fun j v hv=>by
 rw[Nat.zero_add,cell_of_row _ _ j _ t (0,0) h]
 simpa using hv
theorem Gh {w:World} {b:Nat} {A:Array Value} {t:TypeId} (h:w.heap[b]? =some (.cells A t (0,0))) {k:Nat} (hk:A.size=k):w.there b 0 k:=fun j hj=>by
 subst hk;rw[Nat.zero_add,cell_of_row _ _ j _ t (0,0) h]
 exact⟨by simp[hj],frozen_of_row w b j A t h⟩
theorem YQ {cur:Array Value} {vs:List Value} (h:cur.size=vs.length):spl cur 0 vs=vs.toArray:=by
 have:=DU vs cur 0 (by omega)
 simp only[List.take_zero,List.nil_append,Nat.zero_add] at this
 rw[List.drop_eq_nil_of_le (by simp;omega),List.append_nil] at this
 apply Array.ext'
 simpa using this
theorem My {W:World} {R:Nat} {t:TypeId} {A:Array Value} (h:W.heap[R]? =some (.cells A t (0,0))) (vs:List Value) (hn:A.size=vs.length):(W.setCells R 0 vs).heap[R]? =some (.cells vs.toArray t (0,0)):=by
 have:=Bu R t vs 0 W A h
 rw[YQ hn] at this
 exact this
theorem stepB {w w' :World} {B:Nat} {o:Obj} (h:w.heap[B]? =some o) (hb:Below w.heap.size w w'):w'.heap[B]? =some o:=(hb.block B (Array.getElem?_eq_some_iff.1 h).1).trans h
theorem Vv {P:Program} {fn:Func} {p q:Tmp} {ty:TypeId} (h:fn.results= #[.cell p ty, .tmp q]) (tmps:Array Value) (w:World) (g:Nat) (t:TypeId) (cs:Array Value) (fr:Nat × Nat) (d:TypeDesc)
  (hp:tmps.getD p undef= .pointer (some ⟨g,0,none⟩)) (hg:w.heap[g]? =some (.cells cs t fr))
  (hu:P.underlying ty=some d) (hd:(match d with| .struct _| .array _ _=>true|_=>false)=true) (hi:(P.info? ty).map (·.size)=some cs.size) :
  (results fn tmps).run P w= .ok (.tuple #[.agg cs,tmps.getD q undef]) w:=by
 have hp' :tmps[p]?.getD undef= .pointer (some ⟨g,0,none⟩):=by simpa using hp
 simp[results,h,hp',asAddr,run_loadVar_row w g t ty cs fr d hg hu hd hi]
theorem Be (W:World) (R:Nat) (vs:List Value):Chg (fun g=>g=R) W (W.setCells R 0 vs):=Chg.setCells (F:=fun g=>g=R) (g:=R) (fun _=>rfl) vs 0 W (Chg.refl _ _)
theorem Aq.slb {n:Nat} {w:World} {F:Nat->Prop} {x:TV} {T:Tr} (h:Aq n w F x T):∃(b:Bool) (x1 x2 x3 x4:Option Addr × Nat × Nat),x=⟨b, .slice x1.1 x1.2.1 x1.2.2, .slice x2.1 x2.2.1 x2.2.2, .slice x3.1 x3.2.1 x3.2.2, .slice x4.1 x4.2.1 x4.2.2⟩:=by
 obtain⟨a1,a2,a3,a4,b1,b2,b3,b4,hy⟩:=h.treeF.treeAt.shape
 exact⟨_,(a1,_,b1),(a2,_,b2),(a3,_,b3),(a4,_,b4),hy⟩
end
section
open Go.RowKit

abbrev Dn:=Int × Int × Int × Bool
abbrev DL:=List Dn
abbrev dn0:Dn:=(0,0,0,false)
def dC (l:DL) (i:Nat):Int:=(l.getD i dn0).1
def dS (l:DL) (i:Nat):Int:=(l.getD i dn0).2.1
def dV (l:DL) (i:Nat):Int:=(l.getD i dn0).2.2.1
def dH (l:DL) (i:Nat):Bool:=(l.getD i dn0).2.2.2
def Y5 (l:DL):List Value:=l.flatMap fun m=>[.int .i64 m.1, .int .i64 m.2.1, .int .i64 m.2.2.1, .bool m.2.2.2]
def YH (p q:Dn):Bool:=decide (p=q)
abbrev dnV (a b c:Int) (d:Bool):Value:= .agg #[.int .i64 a, .int .i64 b, .int .i64 c, .bool d]

def YK (l:DL) (k:Nat):DL:=l.take k++List.replicate (l.length-k) dn0
end
section
open Go.RowKit

theorem Tryz.neqP (a b c d:Int) (w:World):(binOp .neq 42 (.agg #[.int .i64 a, .int .i64 b]) (.agg #[.int .i64 c, .int .i64 d])).run Tryz.prog w= .ok (.bool (!(decide (a=c/\b=d)))) w:=by
 have u3:=Tryz.underlying3
 have a3:=Tryz.isAgg3
 have z3:=Tryz.sizeOf3
 have hS:Tryz.prog.underlying 42=some (.struct (Tryz.prog.fieldsOf 42)):=by kernel_rfl
 have hp:Tryz.prog.stoodInHeld 42=false:=by kernel_rfl
 rw[run_neq_struct,show(10000:Nat)=9999+1 from rfl,run_equalIn_agg w 9999 42 _ _ hS hp]
 simp only[Program.fieldsOf,Tryz.underlying42]
 go_simp
 by_cases h1:a=c<;>by_cases h2:b=d<;>simp[h1,h2]
theorem Tryz.guardP:Tryz.prog.eqGuardType Tryz.prog.depth 42=false:=by kernel_rfl

theorem WG {l1 l2:PL} (hl:l1.length=l2.length) (h:∀i,i<l1.length->kOf l1 i=kOf l2 i/\vOf l1 i=vOf l2 i):l1=l2:=by
 apply List.ext_getElem hl
 intro i h1 h2;have:=h i h1
 simp only[kOf,vOf,List.getD,List.getElem?_eq_getElem h1,List.getElem?_eq_getElem h2,Option.getD_some] at this
 exact Prod.ext this.1 this.2

theorem Si (v1 v2:Value) (l1 l2:PL) (w:World) (h1:Row w v1 l1.length (Af l1)) (h2:Row w v2 l2.length (Af l2)) :
  Calls Tryz.prog 22 #[v1,v2] w fun e w' =>e= .returned (.bool (decide (l1=l2)))/\Below w.heap.size w w' :=by
 obtain⟨a,b,off,cap,rfl,hcap,hmax,ha,hx0,hx1⟩:=h1.pairs
 obtain⟨a2,b2,off2,cap2,rfl,hcap2,hmax2,ha2,hy0,hy1⟩:=h2.pairs
 unfold maxLen at hmax hmax2;by_cases hl:l1.length=l2.length
 ·have hne:((l1.length:Int) != (l2.length:Int))=false:=by rw[bne_eq_false_iff_eq];omega
  have HL:Hid (l1.length=l2.length):=hl
  have hl2:l1.length<=l2.length:=by omega
  clear hl;go_enter Tryz.func22,Tryz.ntmps22
  go_wp2;go_loopw [5,13] (fun _ i wr=>∃k:Nat,k<=l1.length/\i= .int .i64 k/\(∀i,i<k->kOf l1 i=kOf l2 i/\vOf l1 i=vOf l2 i)/\Below w.heap.size w wr)
   (fun _ i _=>l1.length-(intOf i).toNat)
  case atStart=>exact⟨0,Nat.zero_le _,rfl,fun i hi=>absurd hi (Nat.not_lt_zero _),Below.refl _ _⟩
  case round=>
   obtain⟨k,hkl,rfl,hall,hb⟩:=hrel
   have ALL:Hid (∀i,i<k->kOf l1 i=kOf l2 i/\vOf l1 i=vOf l2 i):=hall
   clear hall;by_cases hlt:k<l1.length
   ·have hal:=ha (by omega)
    subst hal;have hal2:=ha2 (by omega)
    subst hal2;have hlt2:k<l2.length:=by omega
    have d0:=(hb.cell (by exact Aa (hx0 k hlt))).trans (hx0 k hlt)
    have d1:=(hb.cell (by exact Aa (hx1 k hlt))).trans (hx1 k hlt)
    have e0:=(hb.cell (by exact Aa (hy0 k hlt2))).trans (hy0 k hlt2)
    have e1:=(hb.cell (by exact Aa (hy1 k hlt2))).trans (hy1 k hlt2)
    have hg:=Tryz.guardP
    have hq:=Tryz.neqP (kOf l1 k) (vOf l1 k) (kOf l2 k) (vOf l2 k)
    clear ha ha2 hx0 hx1 hy0 hy1;by_cases he:kOf l1 k=kOf l2 k/\vOf l1 k=vOf l2 k
    ·rw[decide_eq_true he,Bool.not_true] at hq
     have EQ:Hid _:=he
     clear he;go_wp2;go_quiet (fail)
     go_wp2;go_roundw
     case rel=>exact⟨k+1,by omega,by go_num,fun i hi=>if h:i<k then ALL.out i h else by rw[show i=k by omega];exact EQ.out,below_drewN hb _⟩
     case measure=>simp[intOf];omega
    ·rw[decide_eq_false he,Bool.not_false] at hq
     have NE:Hid (decide (l1=l2)=false):=decide_eq_false (fun e=>he (by subst e;exact⟨rfl,rfl⟩))
     clear he;go_wp2;go_quiet (fail)
     go_wp2;go_ret;exact⟨Az NE.out.symm,below_drewN hb _⟩
   ·go_wp2;go_ret;refine⟨Az ?_,hb⟩
    symm
    rw[decide_eq_true_iff]
    exact WG HL.out (fun i hi=>ALL.out i (by omega))
 ·have hne:((l1.length:Int) != (l2.length:Int))=true:=by rw[bne_iff_ne];omega
  go_enter Tryz.func22,Tryz.ntmps22
  go_wp2;go_ret;refine⟨Az ?_,Below.refl _ _⟩
  symm
  rw[decide_eq_false_iff_not]
  intro h;exact hl (by rw[h])
end
end Go.Proofs.YtebglpllkjgjbaaGreat
