/-
  l4Give at all depths; the contract of the model's l4Root.
  The program's rootOver: one tree of what came.
-/
import Derived.Test.YtcmofojechfccaaGreatOfInject33
import Derived.Test.YtcmofojechfccaaGreatOfInject13
import Derived.Deep.LoopGhost
import Derived.Test.YtcmofojechfccaaGreatOfInject30
import Derived.WalkMore
import Derived.ScopeJumps
namespace Go.Proofs.YtcmofojechfccaaGreat
set_option maxRecDepth 100000
set_option maxHeartbeats 8000000
section
open Go.RowKit

theorem give_all:∀d,GiveIs d
 |0=>fun _ _ _ _ _ _ _ _ h _ _=>h.elim
 |d+1=>by
  intro F x T vm ms w ht hm hs hp hn
  rcases hs with⟨h1,rfl,h2,h3⟩|⟨h1,h0,h2,h3,h4,h5,h6⟩
  ·rw[giveM,if_pos h1]
   exact give_leaf 0 F x T vm ms w ht hm h1 (by omega)
  ·rw[giveM,if_neg (by rw[h1];simp)]
   refine give_fork (give_all d) (down_of (give_all d)) F x T vm ms w ht hm h1 ⟨h4,h6⟩ h2 ?_
   rw[wt,if_neg (by rw[h1];simp)] at hn
   exact hn

theorem rootM_go {f:Nat} {m:TM} (h:4<m.1.length) (hf:m.1.length<=f):rootM f m=rootM (f-1) (packM m):=by
 cases f with
 |zero=>omega
 |succ f=>rw[rootM,if_pos h,Nat.add_sub_cancel]
theorem rootM_one {f:Nat} {m:TM} (h:m.1.length=1) (hf:m.1.length<=f):rootM f m=m.1.getD 0 noTr:=by
 cases f with
 |zero=>omega
 |succ f=>rw[rootM,if_neg (by omega),if_pos h]
theorem rootM_few {f:Nat} {m:TM} (h:¬4<m.1.length) (h1:¬m.1.length=1) (hp:0<m.1.length) (hf:m.1.length<=f):rootM f m=⟨false,[],m.2,m.1,[]⟩:=by
 cases f with
 |zero=>omega
 |succ f=>rw[rootM,if_neg h,if_neg h1]

theorem l4Root_any (d:Nat) (F:Nat->Prop) (vt vc:Value) (m:TM) (w:World) (ht:TreesF d w F vt m.1) (hc:RowF w F vc m.2.length (flatI m.2)) (hm:MOk d m) (hn:wtL d m.1<=1000000) :
  Calls Tryz.prog 45 #[.agg #[vt,vc]] w fun e w' =>∃(x:TV),e= .returned x.val/\TreeF (d+m.1.length) w' (fun b=>F b∨w.heap.size<=b) x (rootM m.1.length m)/\Below w.heap.size w w' :=by
 obtain⟨at0,qt0,hvt,_⟩:=(show Row w vt m.1.length _ from(ht.els.choose_spec.2).row).len
 obtain⟨ac0,qc0,hvc,_⟩:=hc.row.len
 subst hvt
 subst hvc
 have HT:Hid (TreesF d w (fun b=>(F b/\b<w.heap.size)∨w.heap.size+2<=b) (.slice at0 m.1.length qt0) m.1):=ht.lt.mono (fun g hg=> .inl hg)
 have HC:Hid (RowF w (fun b=>(F b/\b<w.heap.size)∨w.heap.size+2<=b) (.slice ac0 m.2.length qc0) m.2.length (flatI m.2)):=(hc.lt (flatI_ne _).2).mono (fun g hg=> .inl hg)
 have HM:Hid (MOk d m):=hm
 have HN:=hid (hn)
 generalize hR:rootM m.1.length m=R
 have HR:=hid (hR)
 generalize hD:d+m.1.length=D
 have HD:Hid (d+m.1.length<=D):=Nat.le_of_eq hD
 clear ht hc hm hn hR
 have B0:Hid (Below w.heap.size w ((w.alloc (.cells #[.slice at0 m.1.length qt0, .slice ac0 m.2.length qc0] 88)).alloc (.cells #[.bool false, .slice none 0 0, .slice none 0 0, .slice none 0 0, .slice none 0 0] 35))):=al2 _ _ _
 have X0:Hid (BoxM ((w.alloc (.cells #[.slice at0 m.1.length qt0, .slice ac0 m.2.length qc0] 88)).alloc (.cells #[.bool false, .slice none 0 0, .slice none 0 0, .slice none 0 0, .slice none 0 0] 35)) w.heap.size #[.slice at0 m.1.length qt0, .slice ac0 m.2.length qc0]):=(BoxM.start w _).alloc _
 have X1:Hid (OneAt ((w.alloc (.cells #[.slice at0 m.1.length qt0, .slice ac0 m.2.length qc0] 88)).alloc (.cells #[.bool false, .slice none 0 0, .slice none 0 0, .slice none 0 0, .slice none 0 0] 35)) (w.heap.size+1) #[.bool false, .slice none 0 0, .slice none 0 0, .slice none 0 0, .slice none 0 0]):=by
  have:=OneAt.start (w.alloc (.cells #[.slice at0 m.1.length qt0, .slice ac0 m.2.length qc0] 88)) #[.bool false, .slice none 0 0, .slice none 0 0, .slice none 0 0, .slice none 0 0]
  rw[World.size_alloc] at this
  exact this
 have Z0:Hid (w.heap.size+2<=((w.alloc (.cells #[.slice at0 m.1.length qt0, .slice ac0 m.2.length qc0] 88)).alloc (.cells #[.bool false, .slice none 0 0, .slice none 0 0, .slice none 0 0, .slice none 0 0] 35)).heap.size):=by show _<=_;simp
 generalize hn1:m.1.length=n1 at *
 generalize hn2:m.2.length=n2 at *
 go_enter Tryz.func45,Tryz.ntmps45
 go_wp2
 refine wp_gen (fun W=>BoxM W w.heap.size #[.slice at0 n1 qt0, .slice ac0 n2 qc0]/\OneAt W (w.heap.size+1) #[.bool false, .slice none 0 0, .slice none 0 0, .slice none 0 0, .slice none 0 0]/\Below w.heap.size w W/\w.heap.size+2<=W.heap.size) ⟨X0.out,X1.out,B0.out,Z0.out⟩ ?_
 rintro W ⟨Y0,Y1,YB,YZ⟩
 clear X0 X1 B0 Z0
 go_loopg [] n1 (fun k wr=>∃(mm:TM) (d' f:Nat) (e1 e2:Option Addr) (p1 p2:Nat),k=mm.1.length/\Hid (BoxM wr w.heap.size #[.slice e1 mm.1.length p1, .slice e2 mm.2.length p2])/\Hid (TreesF d' wr (fun b=>(F b/\b<w.heap.size)∨w.heap.size+2<=b) (.slice e1 mm.1.length p1) mm.1)/\Hid (RowF wr (fun b=>(F b/\b<w.heap.size)∨w.heap.size+2<=b) (.slice e2 mm.2.length p2) mm.2.length (flatI mm.2))/\Hid (MOk d' mm)/\Hid (wtL d' mm.1<=1000000)/\Hid (rootM f mm=R)/\Hid (mm.1.length<=f)/\Hid (d' +mm.1.length<=D)/\Hid (OneAt wr (w.heap.size+1) #[.bool false, .slice none 0 0, .slice none 0 0, .slice none 0 0, .slice none 0 0])/\Hid (Below w.heap.size w wr)/\Hid (w.heap.size+2<=wr.heap.size))
 case atStart=>exact⟨m,d,n1,at0,ac0,qt0,qc0,hn1.symm,by rw[hn1,hn2];exact Y0,by rw[hn1];exact HT.out.below YB,by rw[hn2];exact HC.out.below YB,HM,HN,HR,Nat.le_of_eq hn1,by rw[hn1];exact HD,Y1,YB,YZ⟩
 case round=>
  obtain⟨mm,d',f,e1,e2,p1,p2,rfl,BL,TM1,RM1,MO1,HW,HL,HF,HE,BR,BW,ZL⟩:=hrel
  clear Y0 Y1 YB YZ HT HC HM HN HR HD
  have hmo:=MO1.out.1
  have hwl:=wtL_length MO1.out.2
  have hww:=HW.out
  obtain⟨x0,x1⟩:=BL.out.two
  by_cases h4:4<mm.1.length
  ·have h4' :(4:Int)<(mm.1.length:Int):=by omega
   have HP:Hid _:=l4Pack_any d' _ _ _ mm wr TM1.out RM1.out hmo (by omega) (by omega)
   have PO:=packM_ok MO1.out (by omega)
   have HL1:Hid (rootM (f-1) (packM mm)=R):=by show _=_;rw[←rootM_go h4 HF.out];exact HL.out
   have NX:Hid (MOk (d' +1) (packM mm)/\wtL (d' +1) (packM mm).1<=1000000/\(packM mm).1.length<=f-1/\d' +1+(packM mm).1.length<=D/\(packM mm).1.length<mm.1.length):=by
    have:=HF.out
    have:=HE.out
    exact⟨PO.1,by omega,by omega,by omega,by omega⟩
   clear PO
   generalize packM mm=PM at *
   clear TM1 RM1 MO1 HL hwl hww HW HF HE
   go_wp2_with fail
   refine Calls.mono HP.out ?_
   rintro e w1 ⟨v1,v2,rfl,TP,RP,hb1⟩
   obtain⟨az,qz,hu1,_⟩:=(show Row w1 v1 PM.1.length _ from(TP.els.choose_spec.2).row).len
   obtain⟨ay,qy,hu2,_⟩:=RP.row.len
   subst hu1
   subst hu2
   have BL1:Hid (BoxM w1 w.heap.size #[.slice e1 mm.1.length p1, .slice e2 mm.2.length p2]):=BL.out.step hb1 BL.out.lt
   have FIN:Hid (∀v v',TreesF (d' +1) (set2 w1 w.heap.size v v') (fun b=>(F b/\b<w.heap.size)∨w.heap.size+2<=b) (.slice az PM.1.length qz) PM.1/\RowF (set2 w1 w.heap.size v v') (fun b=>(F b/\b<w.heap.size)∨w.heap.size+2<=b) (.slice ay PM.2.length qy) PM.2.length (flatI PM.2)/\OneAt (set2 w1 w.heap.size v v') (w.heap.size+1) #[.bool false, .slice none 0 0, .slice none 0 0, .slice none 0 0, .slice none 0 0]/\Below w.heap.size w (set2 w1 w.heap.size v v')/\w.heap.size+2<=(set2 w1 w.heap.size v v').heap.size):=fun v v' =>by
    have hz:=ZL.out
    have hc:=chg_set2 w1 w.heap.size v v'
    have hbw:=BW.out.size
    have hb1s:=hb1.size
    have hk:∀g,((fun b=>(F b/\b<w.heap.size)∨w.heap.size+2<=b) g∨wr.heap.size<=g)->¬g=w.heap.size/\((F g/\g<w.heap.size)∨w.heap.size+2<=g):=fun g hg=>by
     rcases hg with(⟨h1,h2⟩|h)|h
     ·exact⟨by omega, .inl ⟨h1,h2⟩⟩
     ·exact⟨by omega, .inr (by omega)⟩
     ·exact⟨by omega, .inr (by omega)⟩
    refine⟨(TP.chg hc (fun g hg=>(hk g hg).1)).mono (fun g hg=>(hk g hg).2),(RP.chg hc (fun g hg=>(hk g hg).1)).mono (fun g hg=>(hk g hg).2),(BR.out.stepB hb1 (by omega)).chg hc (by omega),(Below.and BW.out hb1).trans (hc.below (fun g _ hg=>by omega) (by omega)), ?_⟩
    have:=hc.size
    omega
   obtain⟨m0,m1⟩:=BL1.out.two
   obtain⟨f0,f1⟩:=BL1.out.free
   clear TP RP hb1 HP x0 x1 BL BR BW ZL
   generalize hq1:PM.1.length=l1 at *
   generalize hq2:PM.2.length=l2 at *
   go_wp2
   go_roundg l1
   case measure=>exact NX.out.2.2.2.2
   case rel=>exact⟨PM,d' +1,f-1,az,ay,qz,qy,hq1.symm,by rw[hq1,hq2];exact BL1.out.set2 _ _,by rw[hq1];exact(FIN.out _ _).1,by rw[hq2];exact(FIN.out _ _).2.1,NX.out.1,NX.out.2.1,HL1,by rw[hq1];exact NX.out.2.2.1,by rw[hq1];exact NX.out.2.2.2.1,(FIN.out _ _).2.2.1,(FIN.out _ _).2.2.2.1,(FIN.out _ _).2.2.2.2⟩
  ·have h4' :¬(4:Int)<(mm.1.length:Int):=by omega
   obtain⟨⟨m0,m1,m2,m3,m4⟩,f0,f1,f2,f3,f4⟩:=box_all5 BR.out
   by_cases h1:mm.1.length=1
   ·have ER:R=mm.1.getD 0 noTr:=HL.out.symm.trans (rootM_one h1 HF.out)
    obtain⟨xs0,hxl,hrow,hel⟩:=TM1.out
    obtain⟨av,b1,off1,c1,hvt,hcap1,hmax1,ha1,d0,d1,d2,d3,d4⟩:=hrow.row.trees
    have KD:Hid (TreeF d' wr (fun b=>(F b/\b<w.heap.size)∨w.heap.size+2<=b) (tvAt xs0 0) (mm.1.getD 0 noTr)):=hel 0 (by omega)
    have c0:=d0 0 (by omega)
    have c1' :=d1 0 (by omega)
    have c2:=d2 0 (by omega)
    have c3:=d3 0 (by omega)
    have c4:=d4 0 (by omega)
    have hav:=ha1 (by omega)
    subst hav
    obtain⟨r1,r2,r3,r4,s1,s2,s3,s4,hy⟩:=KD.out.treeAt.shape
    rw[hy] at KD c0 c1' c2 c3 c4
    simp only[Nat.zero_mul,Nat.add_zero] at c0 c1' c2 c3 c4
    have hw1:((mm.1.length:Nat):Int)=1:=by omega
    have hv:(Value.slice e1 mm.1.length p1)= .slice (some ⟨b1,off1,none⟩) 1 c1:=by rw[hvt,hxl,h1]
    rw[hv] at BL x0
    have FIN:Hid (∀v0 v1 v2 v3 v4,TreeF D (set5 wr (w.heap.size+1) v0 v1 v2 v3 v4) (fun b=>F b∨w.heap.size<=b) (⟨(mm.1.getD 0 noTr).leaf, .slice r1 (mm.1.getD 0 noTr).pairs.length s1, .slice r2 (mm.1.getD 0 noTr).cuts.length s2, .slice r3 (mm.1.getD 0 noTr).kids.length s3, .slice r4 (mm.1.getD 0 noTr).buf.length s4⟩:TV) R/\Below w.heap.size w (set5 wr (w.heap.size+1) v0 v1 v2 v3 v4)):=fun v0 v1 v2 v3 v4=>by
     have hc:=chg_set5 wr (w.heap.size+1) v0 v1 v2 v3 v4
     have hz:=ZL.out
     have hbw:=BW.out.size
     have he:=HE.out
     rw[ER]
     exact⟨((KD.out.chg hc (fun g hg k=>by rcases hg with h|h<;>omega)).mono (fun g hg=>hg.elim (fun h=> .inl h.1) (fun h=> .inr (by omega)))).le (by omega),BW.out.trans (hc.below (fun g _ hg=>by omega) (by omega))⟩
    generalize (mm.1.getD 0 noTr).leaf=z0 at *
    generalize (mm.1.getD 0 noTr).pairs.length=z1 at *
    generalize (mm.1.getD 0 noTr).cuts.length=z2 at *
    generalize (mm.1.getD 0 noTr).kids.length=z3 at *
    generalize (mm.1.getD 0 noTr).buf.length=z4 at *
    clear TM1 RM1 MO1 HL hwl hww HW HF HE BL BW ZL KD hrow hel d0 d1 d2 d3 d4 ha1 hvt hv hxl hy ER hmo
    go_wp2
    refine bodyPost_ret (v:= .agg #[.bool z0, .slice r1 z1 s1, .slice r2 z2 s2, .slice r3 z3 s3, .slice r4 z4 s4]) (by simp[results,Tryz.results45,go_sem,m0,m1,m2,m3,m4]) rfl ⟨⟨z0, .slice r1 z1 s1, .slice r2 z2 s2, .slice r3 z3 s3, .slice r4 z4 s4⟩,rfl,(FIN.out _ _ _ _ _).1,(FIN.out _ _ _ _ _).2⟩
   ·have ER:R=⟨false,[],mm.2,mm.1,[]⟩:=HL.out.symm.trans (rootM_few h4 h1 (by omega) HF.out)
    have h1' :¬((mm.1.length:Nat):Int)=1:=by omega
    have FIN:Hid (∀v0 v1 v2 v3 v4,TreeF D (set5 wr (w.heap.size+1) v0 v1 v2 v3 v4) (fun b=>F b∨w.heap.size<=b) (⟨false, .slice none 0 0, .slice e2 mm.2.length p2, .slice e1 mm.1.length p1, .slice none 0 0⟩:TV) R/\Below w.heap.size w (set5 wr (w.heap.size+1) v0 v1 v2 v3 v4)):=fun v0 v1 v2 v3 v4=>by
     have hc:=chg_set5 wr (w.heap.size+1) v0 v1 v2 v3 v4
     have hz:=ZL.out
     have hbw:=BW.out.size
     have he:=HE.out
     rw[ER]
     have hk:∀g,(F g/\g<w.heap.size)∨w.heap.size+2<=g->¬g=w.heap.size+1/\(F g∨w.heap.size<=g):=fun g hg=>by
      rcases hg with⟨h1,h2⟩|h
      ·exact⟨by omega, .inl h1⟩
      ·exact⟨by omega, .inr (by omega)⟩
     refine⟨TreeF.le (n:=d' +1) (TreeF.mk rfl (RowF.nil _ _) ((RM1.out.chg hc (fun g hg=>(hk g hg).1)).mono (fun g hg=>(hk g hg).2)) (RowF.nil _ _) ((TM1.out.chg hc (fun g hg=>(hk g hg).1)).mono (fun g hg=>(hk g hg).2))) (by omega),BW.out.trans (hc.below (fun g _ hg=>by omega) (by omega))⟩
    clear TM1 RM1 MO1 HL hwl hww HW HF HE BL BW ZL ER hmo
    generalize mm.1.length=l1 at *
    generalize mm.2.length=l2 at *
    go_wp2
    refine bodyPost_ret (v:= .agg #[.bool false, .slice none 0 0, .slice e2 l2 p2, .slice e1 l1 p1, .slice none 0 0]) (by simp[results,Tryz.results45,go_sem,m0,m1,m2,m3,m4]) rfl ⟨⟨false, .slice none 0 0, .slice e2 l2 p2, .slice e1 l1 p1, .slice none 0 0⟩,rfl,(FIN.out _ _ _ _ _).1,(FIN.out _ _ _ _ _).2⟩
end
section
open Go.RowKit

theorem rootM_more:∀f g d (m:TM),MOk d m->m.1.length<=f->m.1.length<=g->rootM f m=rootM g m
 |0,g,d,m,h,hf,_=>by have:=h.1;omega
 |f+1,0,d,m,h,_,hg=>by have:=h.1;omega
 |f+1,g+1,d,m,h,hf,hg=>by
  rw[rootM,rootM]
  split
  ·have hp:=packM_ok h (by omega)
   exact rootM_more f g (d+1) (packM m) hp.1 (by omega) (by omega)
  ·rfl
theorem endD_ok {d:Nat} {m:TM} (h:MOk d m) (h2:2<=m.1.length):MOk (d+1) (endD m)/\(endD m).1.length<m.1.length:=by
 unfold endD
 split
 ·have hp:=packM_ok h h2
  exact⟨hp.1,by omega⟩
 ·exact⟨MOk.one (.inr ⟨rfl,rfl,h2,(by show m.1.length<=4;omega),h.1,by simp,h.2⟩),by simp;omega⟩
theorem root_step {d:Nat} {m:TM} (h:MOk d m) (h2:2<=m.1.length):rootM m.1.length m=rootM (endD m).1.length (endD m):=by
 have he:=endD_ok h h2
 obtain⟨k,hk⟩:∃k,m.1.length=k+1:=⟨m.1.length-1,by omega⟩
 rw[hk,rootM]
 by_cases h4:4<m.1.length
 ·have e:endD m=packM m:=by rw[endD,if_pos h4]
  rw[if_pos h4,e]
  rw[e] at he
  exact rootM_more k _ (d+1) (packM m) he.1 (by omega) (Nat.le_refl _)
 ·have e:endD m=([⟨false,[],m.2,m.1,[]⟩],[]):=by rw[endD,if_neg h4]
  rw[if_neg h4,if_neg (by omega),e]
  simp[rootM]
theorem root_one {m:TM} (h:m.1.length=1):rootM m.1.length m=m.1.getD 0 noTr:=by
 rw[h,rootM,if_neg (by omega),if_pos h]

def BoxT (u:World) (B:Nat) (A:Array Value):Prop:=u.heap[B]? =some (.cells A 35 (0,0))
theorem BoxT.start (w:World) (A:Array Value):BoxT (w.alloc (.cells A 35)) w.heap.size A:=heap_alloc_new w _
theorem BoxT.step {u w' :World} {B:Nat} {A:Array Value} (h:BoxT u B A) (hb:Below u.heap.size u w'):BoxT w' B A:=(hb.block B (Array.getElem?_eq_some_iff.1 h).1).trans h
theorem BoxT.cells {u:World} {B:Nat} {A:Array Value} (h:BoxT u B A):∀j,u.cell? ⟨B,j,none⟩=A[j]? :=fun j=>cell_of_row u B j A 35 (0,0) h
theorem BoxT.free {u:World} {B:Nat} {A:Array Value} (h:BoxT u B A):∀j,u.frozen? ⟨B,j,none⟩=false:=fun j=>frozen_of_row u B j A 35 h
theorem BoxT.chg {w w' :World} {L:Nat} {A:Array Value} {p:Nat->Prop} (h:BoxT w L A) (hc:Chg p w w') (hp:¬p L):BoxT w' L A:=(hc.block L (Array.getElem?_eq_some_iff.1 h).1 hp).trans h
theorem BoxT.lt {u:World} {B:Nat} {A:Array Value} (h:BoxT u B A):B<u.heap.size:=(Array.getElem?_eq_some_iff.1 h).1
abbrev noT:Array Value:= #[.bool false, .slice none 0 0, .slice none 0 0, .slice none 0 0, .slice none 0 0]

abbrev setT (u:World) (L:Nat) (y0 y1 y2 y3 y4:Value):World:=((((u.setCell ⟨L,0,none⟩ y0).setCell ⟨L,1,none⟩ y1).setCell ⟨L,2,none⟩ y2).setCell ⟨L,3,none⟩ y3).setCell ⟨L,4,none⟩ y4
theorem BoxT.set5 {u:World} {L:Nat} {x0 x1 x2 x3 x4:Value} (h:BoxT u L #[x0,x1,x2,x3,x4]) (y0 y1 y2 y3 y4:Value):BoxT (setT u L y0 y1 y2 y3 y4) L #[y0,y1,y2,y3,y4]:=
 heap_setCell_same _ L 4 _ 35 y4 (heap_setCell_same _ L 3 _ 35 y3 (heap_setCell_same _ L 2 _ 35 y2 (heap_setCell_same _ L 1 _ 35 y1 (heap_setCell_same u L 0 _ 35 y0 h))))
theorem chg_setT (u:World) (L:Nat) (y0 y1 y2 y3 y4:Value):Chg (fun g=>g=L) u (setT u L y0 y1 y2 y3 y4):=(((((Chg.refl (fun g=>g=L) u).setAt L 0 rfl y0).setAt L 1 rfl y1).setAt L 2 rfl y2).setAt L 3 rfl y3).setAt L 4 rfl y4
theorem setT_below {w u:World} {L:Nat} (h:Below w.heap.size w u) (hL:w.heap.size<=L) (y0 y1 y2 y3 y4:Value):Below w.heap.size w (setT u L y0 y1 y2 y3 y4):=
 ((((h.setCell (p:=⟨L,0,none⟩) hL y0).setCell (p:=⟨L,1,none⟩) hL y1).setCell (p:=⟨L,2,none⟩) hL y2).setCell (p:=⟨L,3,none⟩) hL y3).setCell (p:=⟨L,4,none⟩) hL y4

def boxLen (B:Nat) (w:World):Nat:=match w.cell? ⟨B,0,none⟩ with|some (.slice _ n _)=>n|_=>0

def RtJ (d:Nat) (F:Nat->Prop) (m:TM) (w u:World):Prop:=
 ∃(e:Nat) (x:TM) (a1 a2:Option Addr) (q1 q2:Nat),TreesF e u (fun g=>(F g/\g<w.heap.size)∨w.heap.size+2<=g) (.slice a1 x.1.length q1) x.1/\RowF u (fun g=>(F g/\g<w.heap.size)∨w.heap.size+2<=g) (.slice a2 x.2.length q2) x.2.length (flatI x.2)∧
  MOk e x/\x.1.length<=1048576/\e+x.1.length<=d+m.1.length/\rootM x.1.length x=rootM m.1.length m/\BoxR u w.heap.size #[.slice a1 x.1.length q1, .slice a2 x.2.length q2]/\BoxT u (w.heap.size+1) noT/\Below w.heap.size w u

theorem rootOver_any (d:Nat) (F:Nat->Prop) (vt vc:Value) (m:TM) (w:World) (ht:TreesF d w F vt m.1) (hc:RowF w F vc m.2.length (flatI m.2)) (hm:MOk d m) (hn:m.1.length<=1048576) :
  Calls Tryz.prog 54 #[.agg #[vt,vc]] w fun e w' =>∃x:TV,e= .returned x.val/\TreeF (d+m.1.length) w' (fun b=>F b∨w.heap.size<=b) x (rootM m.1.length m)/\Below w.heap.size w w' :=by
 obtain⟨a1,q1,hvt,_⟩:=ht.els.choose_spec.2.row.len
 obtain⟨a2,q2,hvc,_⟩:=hc.row.len
 subst hvt hvc
 have J0:Hid (RtJ d F m w ((w.alloc (.cells #[.slice a1 m.1.length q1, .slice a2 m.2.length q2] 96)).alloc (.cells noT 35))):=
  ⟨d,m,a1,a2,q1,q2,(ht.lt.below (al2 _ _ _)).mono (fun g hg=> .inl hg),((hc.lt (flatI_ne _).2).below (al2 _ _ _)).mono (fun g hg=> .inl hg),hm,hn,Nat.le_refl _,rfl,(BoxR.start w _).step (al1 _ _),by
   have:=BoxT.start (w.alloc (.cells #[.slice a1 m.1.length q1, .slice a2 m.2.length q2] 96)) noT
   rw[World.size_alloc] at this
   exact this,al2 _ _ _⟩
 clear ht hc
 have hm1:0<m.1.length:=by have:=hm.1;omega
 go_enter Tryz.func54,Tryz.ntmps54
 go_wp2
 refine wp_scope_jumps 0 (fun a' u=>RtJ d F m w u/\∃(u3 u4 u5 u6 u7 u8 u9 u10 u11 u12:Value),a' ={ tmps:= #[.agg #[.slice a1 m.1.length q1, .slice a2 m.2.length q2], .pointer (some ⟨w.heap.size,0,none⟩), .pointer (some ⟨w.heap.size+1,0,none⟩),u3,u4,u5,u6,u7,u8,u9,u10,u11,u12],defers:=[] }) (fun _ u=>boxLen w.heap.size u) rfl ?_ ?_
 ·refine wp_gen (fun u=>RtJ d F m w u) J0.out ?_
  rintro u ⟨e,x,b1,b2,p1,p2,j1,j2,j3,j4,j5,j6,j7,j8,j9⟩
  go_wp2
  go_step3
  clear J0
  obtain⟨j71,j72⟩:=j7.two
  have J8:=hid (j8)
  have J7:=hid (j7)
  have j3' :=j3.1
  by_cases h1:1<x.1.length
  ·have h1' :(1:Int)<(x.1.length:Int):=by omega
   have HF:=hid (forksOf_any e _ _ _ x u j1 j2 j3' j4)
   obtain⟨k1,k2⟩:=endD_ok j3 (by omega)
   have k3:=root_step j3 (by omega)
   have JJ:Hid (MOk (e+1) (endD x)/\(endD x).1.length<x.1.length/\rootM (endD x).1.length (endD x)=rootM m.1.length m/\e+x.1.length<=d+m.1.length/\Below w.heap.size w u):=⟨k1,k2,k3.symm.trans j6,j5,j9⟩
   clear j1 j2 j3 j5 j6 j7 j8 j9 j3' k1 k2 k3
   go_wp2_with fail
   refine Calls.mono HF.out ?_
   rintro e' w1 ⟨v1,v2,rfl,t1,r1,bb⟩
   obtain⟨c1,s1,hv1,_⟩:=t1.els.choose_spec.2.row.len
   obtain⟨c2,s2,hv2,_⟩:=r1.row.len
   subst hv1 hv2
   have Z7:=J7.out.step bb
   obtain⟨g0,g1⟩:=Z7.two
   obtain⟨f0,f1⟩:=Z7.free
   have hu2:w.heap.size+2<=u.heap.size:=by have:=J8.out.lt;omega
   have NX:Hid (RtJ d F m w (setR w1 w.heap.size (.slice c1 (endD x).1.length s1) (.slice c2 (endD x).2.length s2))):=by
    obtain⟨i1,i2,i3,i4,i5⟩:=JJ.out
    refine⟨e+1,endD x,c1,c2,s1,s2,(t1.chg (chg_setR w1 w.heap.size _ _) (fun g hg e=> ?_)).mono (fun g hg=> ?_),(r1.chg (chg_setR w1 w.heap.size _ _) (fun g hg e=> ?_)).mono (fun g hg=> ?_),i1,by omega,by omega,i3,Z7.set2 _ _,(J8.out.step bb).chg (chg_setR w1 w.heap.size _ _) (by omega),((Below.and i5 bb).setCell (p:=⟨w.heap.size,0,none⟩) (Nat.le_refl _) _).setCell (p:=⟨w.heap.size,1,none⟩) (Nat.le_refl _) _⟩
    ·rcases hg with(⟨_,h⟩|h)|h<;>omega
    ·rcases hg with(h|h)|h
     ·exact .inl h
     ·exact .inr h
     ·exact .inr (by omega)
    ·rcases hg with(⟨_,h⟩|h)|h<;>omega
    ·rcases hg with(h|h)|h
     ·exact .inl h
     ·exact .inr h
     ·exact .inr (by omega)
   have hlt:=JJ.out.2.1
   have Z:Hid _:=(Z7.set2 (.slice c1 (endD x).1.length s1) (.slice c2 (endD x).2.length s2)).two
   clear t1 r1 bb Z7 hu2 JJ
   go_wp2
   go_step3
   refine⟨rfl,⟨?_,_,_,_,_,_,_,_,_,_,_,rfl⟩⟩
   ·exact NX.out
  ·have h1n:¬((1:Int)<(x.1.length:Int)):=by omega
   have e1:x.1.length=1:=by omega
   obtain⟨xs,ex,rx⟩:=j1.els
   rw[←ex.1] at rx
   obtain⟨_,bb1,oo1,cc1,hv,_,_,ha,c0,c1,c2,c3,c4⟩:=rx.row.trees
   have hxs:xs.length=1:=by rw[ex.1,e1]
   simp only[Value.slice.injEq] at hv
   obtain⟨rfl,_,rfl⟩:=hv
   have ha' :=ha (by omega)
   subst ha'
   have d0:=c0 0 (by omega)
   have d1:=c1 0 (by omega)
   have d2:=c2 0 (by omega)
   have d3:=c3 0 (by omega)
   have d4:=c4 0 (by omega)
   simp only[Nat.zero_mul,Nat.add_zero] at d0 d1 d2 d3 d4
   have T0:=ex.2 0 (by omega)
   obtain⟨r1,r2,r3,r4,z1,z2,z3,z4,hy⟩:=T0.treeAt.shape
   rw[hy] at T0 d0 d1 d2 d3 d4
   simp only at d0 d1 d2 d3 d4
   have R0:=root_one e1
   rw[j6] at R0
   rw[←R0] at T0 d0 d1 d2 d3 d4
   have TT:=hid (T0)
   have BB:Hid (e+x.1.length<=d+m.1.length/\Below w.heap.size w u):=⟨j5,j9⟩
   have z8:=j8.cells
   have BZ:=hid (j8)
   have z9:=j8.free
   generalize (rootM m.1.length m).leaf=lf at *
   generalize (rootM m.1.length m).pairs.length=m1 at *
   generalize (rootM m.1.length m).cuts.length=m2 at *
   generalize (rootM m.1.length m).kids.length=m3 at *
   generalize (rootM m.1.length m).buf.length=m4 at *
   have hxl:x.1.length=1:=e1
   rw[hxl] at j71
   rw[hxl] at h1n
   clear j1 j2 j3 j5 j6 j7 j8 j9 j3' ex rx ha c0 c1 c2 c3 c4 e1 R0 J7 T0 hy hxs h1 hxl
   go_wp2
   simp only[Exit.jump]
   have Z:=(BZ.out.set5 (.bool lf) (.slice r1 m1 z1) (.slice r2 m2 z2) (.slice r3 m3 z3) (.slice r4 m4 z4)).cells
   refine bodyPost_ret (v:= .agg #[.bool lf, .slice r1 m1 z1, .slice r2 m2 z2, .slice r3 m3 z3, .slice r4 m4 z4]) (by simp[results,Tryz.results54,go_sem,Z]) rfl ⟨⟨lf, .slice r1 m1 z1, .slice r2 m2 z2, .slice r3 m3 z3, .slice r4 m4 z4⟩,rfl, ?_, ?_⟩
   ·exact((TT.out.chg (chg_setT u (w.heap.size+1) (.bool lf) (.slice r1 m1 z1) (.slice r2 m2 z2) (.slice r3 m3 z3) (.slice r4 m4 z4)) (fun g hg e=>by rcases hg with⟨_,h⟩|h<;>omega)).mono (fun g hg=>hg.imp And.left (fun h=>by omega))).le (by have:=BB.out.1;omega)
   ·exact setT_below BB.out.2 (Nat.le_succ _) _ _ _ _ _
 ·rintro a' u ⟨⟨e,x,b1,b2,p1,p2,j1,j2,j3,j4,j5,j6,j7,j8,j9⟩,u3,u4,u5,u6,u7,u8,u9,u10,u11,u12,rfl⟩
  clear J0
  obtain⟨j71,j72⟩:=j7.two
  have J8:=hid (j8)
  have J7:=hid (j7)
  have j3' :=j3.1
  by_cases h1:1<x.1.length
  ·have h1' :(1:Int)<(x.1.length:Int):=by omega
   have HF:=hid (forksOf_any e _ _ _ x u j1 j2 j3' j4)
   obtain⟨k1,k2⟩:=endD_ok j3 (by omega)
   have k3:=root_step j3 (by omega)
   have JJ:Hid (MOk (e+1) (endD x)/\(endD x).1.length<x.1.length/\rootM (endD x).1.length (endD x)=rootM m.1.length m/\e+x.1.length<=d+m.1.length/\Below w.heap.size w u):=⟨k1,k2,k3.symm.trans j6,j5,j9⟩
   clear j1 j2 j3 j5 j6 j7 j8 j9 j3' k1 k2 k3
   go_wp2_with fail
   refine Calls.mono HF.out ?_
   rintro e' w1 ⟨v1,v2,rfl,t1,r1,bb⟩
   obtain⟨c1,s1,hv1,_⟩:=t1.els.choose_spec.2.row.len
   obtain⟨c2,s2,hv2,_⟩:=r1.row.len
   subst hv1 hv2
   have Z7:=J7.out.step bb
   obtain⟨g0,g1⟩:=Z7.two
   obtain⟨f0,f1⟩:=Z7.free
   have hu2:w.heap.size+2<=u.heap.size:=by have:=J8.out.lt;omega
   have NX:Hid (RtJ d F m w (setR w1 w.heap.size (.slice c1 (endD x).1.length s1) (.slice c2 (endD x).2.length s2))):=by
    obtain⟨i1,i2,i3,i4,i5⟩:=JJ.out
    refine⟨e+1,endD x,c1,c2,s1,s2,(t1.chg (chg_setR w1 w.heap.size _ _) (fun g hg e=> ?_)).mono (fun g hg=> ?_),(r1.chg (chg_setR w1 w.heap.size _ _) (fun g hg e=> ?_)).mono (fun g hg=> ?_),i1,by omega,by omega,i3,Z7.set2 _ _,(J8.out.step bb).chg (chg_setR w1 w.heap.size _ _) (by omega),((Below.and i5 bb).setCell (p:=⟨w.heap.size,0,none⟩) (Nat.le_refl _) _).setCell (p:=⟨w.heap.size,1,none⟩) (Nat.le_refl _) _⟩
    ·rcases hg with(⟨_,h⟩|h)|h<;>omega
    ·rcases hg with(h|h)|h
     ·exact .inl h
     ·exact .inr h
     ·exact .inr (by omega)
    ·rcases hg with(⟨_,h⟩|h)|h<;>omega
    ·rcases hg with(h|h)|h
     ·exact .inl h
     ·exact .inr h
     ·exact .inr (by omega)
   have hlt:=JJ.out.2.1
   have Z:Hid _:=(Z7.set2 (.slice c1 (endD x).1.length s1) (.slice c2 (endD x).2.length s2)).two
   clear t1 r1 bb Z7 hu2 JJ
   go_wp2
   go_step3
   refine⟨rfl,⟨?_,_,_,_,_,_,_,_,_,_,_,rfl⟩, ?_⟩
   ·exact NX.out
   ·show boxLen _ _<boxLen _ _
    unfold boxLen
    rw[Z.out.1,j71]
    exact hlt
  ·have h1n:¬((1:Int)<(x.1.length:Int)):=by omega
   have e1:x.1.length=1:=by omega
   obtain⟨xs,ex,rx⟩:=j1.els
   rw[←ex.1] at rx
   obtain⟨_,bb1,oo1,cc1,hv,_,_,ha,c0,c1,c2,c3,c4⟩:=rx.row.trees
   have hxs:xs.length=1:=by rw[ex.1,e1]
   simp only[Value.slice.injEq] at hv
   obtain⟨rfl,_,rfl⟩:=hv
   have ha' :=ha (by omega)
   subst ha'
   have d0:=c0 0 (by omega)
   have d1:=c1 0 (by omega)
   have d2:=c2 0 (by omega)
   have d3:=c3 0 (by omega)
   have d4:=c4 0 (by omega)
   simp only[Nat.zero_mul,Nat.add_zero] at d0 d1 d2 d3 d4
   have T0:=ex.2 0 (by omega)
   obtain⟨r1,r2,r3,r4,z1,z2,z3,z4,hy⟩:=T0.treeAt.shape
   rw[hy] at T0 d0 d1 d2 d3 d4
   simp only at d0 d1 d2 d3 d4
   have R0:=root_one e1
   rw[j6] at R0
   rw[←R0] at T0 d0 d1 d2 d3 d4
   have TT:=hid (T0)
   have BB:Hid (e+x.1.length<=d+m.1.length/\Below w.heap.size w u):=⟨j5,j9⟩
   have z8:=j8.cells
   have BZ:=hid (j8)
   have z9:=j8.free
   generalize (rootM m.1.length m).leaf=lf at *
   generalize (rootM m.1.length m).pairs.length=m1 at *
   generalize (rootM m.1.length m).cuts.length=m2 at *
   generalize (rootM m.1.length m).kids.length=m3 at *
   generalize (rootM m.1.length m).buf.length=m4 at *
   have hxl:x.1.length=1:=e1
   rw[hxl] at j71
   rw[hxl] at h1n
   clear j1 j2 j3 j5 j6 j7 j8 j9 j3' ex rx ha c0 c1 c2 c3 c4 e1 R0 J7 T0 hy hxs h1 hxl
   go_wp2
   simp only[Exit.jump]
   have Z:=(BZ.out.set5 (.bool lf) (.slice r1 m1 z1) (.slice r2 m2 z2) (.slice r3 m3 z3) (.slice r4 m4 z4)).cells
   refine bodyPost_ret (v:= .agg #[.bool lf, .slice r1 m1 z1, .slice r2 m2 z2, .slice r3 m3 z3, .slice r4 m4 z4]) (by simp[results,Tryz.results54,go_sem,Z]) rfl ⟨⟨lf, .slice r1 m1 z1, .slice r2 m2 z2, .slice r3 m3 z3, .slice r4 m4 z4⟩,rfl, ?_, ?_⟩
   ·exact((TT.out.chg (chg_setT u (w.heap.size+1) (.bool lf) (.slice r1 m1 z1) (.slice r2 m2 z2) (.slice r3 m3 z3) (.slice r4 m4 z4)) (fun g hg e=>by rcases hg with⟨_,h⟩|h<;>omega)).mono (fun g hg=>hg.imp And.left (fun h=>by omega))).le (by have:=BB.out.1;omega)
   ·exact setT_below BB.out.2 (Nat.le_succ _) _ _ _ _ _
end
end Go.Proofs.YtcmofojechfccaaGreat
