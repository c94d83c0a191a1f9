/-
  The model's l12Rpc.
-/
import Derived.Test.YtkcaelfkcepdkaaGreatOfNote32
import Derived.Test.YtkcaelfkcepdkaaGreatOfNote36
import Derived.Test.YtkcaelfkcepdkaaGreatOfNote33
namespace Go.Proofs.YtkcaelfkcepdkaaGreat
set_option maxRecDepth 100000
set_option maxHeartbeats 8000000
section
open Go.RowKit

def Fh (n:Nat) (w:World) (F:Nat->Prop) (N:BP) (D:Rd):Prop:=AB w F 119 6 N.ev D.l.length (Af D.l)/\AQ n w F N.s D.T D.d
theorem Fh.chg {n:Nat} {w w' :World} {F P:Nat->Prop} {N:BP} {D:Rd} (h:Fh n w F N D) (hc:Chg P w w') (hP:∀g,F g->¬P g):Fh n w' F N D:=⟨h.1.chg hc hP,AQ.chg h.2 hc hP⟩
theorem Fh.ltF {n:Nat} {w:World} {F:Nat->Prop} {N:BP} {D:Rd} (h:Fh n w F N D):Fh n w (fun g=>F g/\g<w.heap.size) N D:=⟨h.1.ltS,⟨h.2.1.lt,h.2.2.1,fun g e=>⟨h.2.2.2 g e,(h.2.2.1.lt g e).2⟩⟩⟩
theorem Fh.at {n:Nat} {w:World} {F:Nat->Prop} {N:BP} {D:Rd} (h:Fh n w F N D):Cu n w N D:=⟨h.1.1.rowF.row,AQ.at h.2⟩
def OR (n:Nat) (w:World) (a b:Nat) (e:BH):Prop:=Ey n w (fun g=>a<=g/\g<b) e.1 e.2
def RO (n:Nat) (w:World) (a b:Nat) (e:BU):Prop:=Fh n w (fun g=>a<=g/\g<b) e.1 e.2
theorem Hv (n:Nat):Kh (OR n):=fun _ _ _ _ _ _ h hc hP=>Ey.chg h hc (fun g hg=>hP g hg.1 hg.2)
theorem NP (n:Nat):Kh (RO n):=fun _ _ _ _ _ _ h hc hP=>Fh.chg h hc (fun g hg=>hP g hg.1 hg.2)

theorem Nk (n:Nat) (N:BP) (D:Rd) (w:World) (h:Cu n w N D) (hs:D.small n) :
  Calls Tryz.prog 28 #[N.val] w fun e w' =>∃M:BP,e= .returned M.val/\N.like M/\Fh n w' (fun g=>w.heap.size<=g) M D/\Below w.heap.size w w' :=by
 obtain⟨kd,fr,tt,te,ix,it,cm,ok,ev,m⟩:=N
 obtain⟨p1,p2⟩:=h
 obtain⟨xe,hz⟩:=p1.sl
 simp only at hz
 subst hz;obtain⟨l0,y1,y2,y3,y4,y5,hz⟩:=p2.sl
 simp only at hz
 subst hz;obtain⟨hs1,hs2,hs3⟩:=hs
 have b0:Below w.heap.size w ((w.alloc (.cells #[.int .i64 kd, .int .i64 fr, .int .i64 tt, .int .i64 te, .int .i64 ix, .int .i64 it, .int .i64 cm, .bool ok, .slice xe.1 xe.2.1 xe.2.2, .bool l0, .slice y1.1 y1.2.1 y1.2.2, .slice y2.1 y2.2.1 y2.2.2, .slice y3.1 y3.2.1 y3.2.2, .slice y4.1 y4.2.1 y4.2.2, .slice y5.1 y5.2.1 y5.2.2] 87)).alloc (.cells #[.int .i64 0, .int .i64 0, .int .i64 0, .int .i64 0, .int .i64 0, .int .i64 0, .int .i64 0, .bool false, .slice none 0 0, .bool false, .slice none 0 0, .slice none 0 0, .slice none 0 0, .slice none 0 0, .slice none 0 0] 87)):=Below.and (Ae _ _) (Ae _ _)
 have n0:=Ai.step (Ai.start 87 w #[.int .i64 kd, .int .i64 fr, .int .i64 tt, .int .i64 te, .int .i64 ix, .int .i64 it, .int .i64 cm, .bool ok, .slice xe.1 xe.2.1 xe.2.2, .bool l0, .slice y1.1 y1.2.1 y1.2.2, .slice y2.1 y2.2.1 y2.2.2, .slice y3.1 y3.2.1 y3.2.2, .slice y4.1 y4.2.1 y4.2.2, .slice y5.1 y5.2.1 y5.2.2]) (Ae _ (.cells #[.int .i64 0, .int .i64 0, .int .i64 0, .int .i64 0, .int .i64 0, .int .i64 0, .int .i64 0, .bool false, .slice none 0 0, .bool false, .slice none 0 0, .slice none 0 0, .slice none 0 0, .slice none 0 0, .slice none 0 0] 87))
 have n1:=Ai.start 87 (w.alloc (.cells #[.int .i64 kd, .int .i64 fr, .int .i64 tt, .int .i64 te, .int .i64 ix, .int .i64 it, .int .i64 cm, .bool ok, .slice xe.1 xe.2.1 xe.2.2, .bool l0, .slice y1.1 y1.2.1 y1.2.2, .slice y2.1 y2.2.1 y2.2.2, .slice y3.1 y3.2.1 y3.2.2, .slice y4.1 y4.2.1 y4.2.2, .slice y5.1 y5.2.1 y5.2.2] 87)) #[.int .i64 0, .int .i64 0, .int .i64 0, .int .i64 0, .int .i64 0, .int .i64 0, .int .i64 0, .bool false, .slice none 0 0, .bool false, .slice none 0 0, .slice none 0 0, .slice none 0 0, .slice none 0 0, .slice none 0 0]
 simp only[World.size_alloc] at n1
 have zz:w.heap.size+2<=((w.alloc (.cells #[.int .i64 kd, .int .i64 fr, .int .i64 tt, .int .i64 te, .int .i64 ix, .int .i64 it, .int .i64 cm, .bool ok, .slice xe.1 xe.2.1 xe.2.2, .bool l0, .slice y1.1 y1.2.1 y1.2.2, .slice y2.1 y2.2.1 y2.2.2, .slice y3.1 y3.2.1 y3.2.2, .slice y4.1 y4.2.1 y4.2.2, .slice y5.1 y5.2.1 y5.2.2] 87)).alloc (.cells #[.int .i64 0, .int .i64 0, .int .i64 0, .int .i64 0, .int .i64 0, .int .i64 0, .int .i64 0, .bool false, .slice none 0 0, .bool false, .slice none 0 0, .slice none 0 0, .slice none 0 0, .slice none 0 0, .slice none 0 0] 87)).heap.size:=by simp
 have G:Hid (CRp w #[.int .i64 kd, .int .i64 fr, .int .i64 tt, .int .i64 te, .int .i64 ix, .int .i64 it, .int .i64 cm, .bool ok, .slice xe.1 xe.2.1 xe.2.2, .bool l0, .slice y1.1 y1.2.1 y1.2.2, .slice y2.1 y2.2.1 y2.2.2, .slice y3.1 y3.2.1 y3.2.2, .slice y4.1 y4.2.1 y4.2.2, .slice y5.1 y5.2.1 y5.2.2] ((w.alloc (.cells #[.int .i64 kd, .int .i64 fr, .int .i64 tt, .int .i64 te, .int .i64 ix, .int .i64 it, .int .i64 cm, .bool ok, .slice xe.1 xe.2.1 xe.2.2, .bool l0, .slice y1.1 y1.2.1 y1.2.2, .slice y2.1 y2.2.1 y2.2.2, .slice y3.1 y3.2.1 y3.2.2, .slice y4.1 y4.2.1 y4.2.2, .slice y5.1 y5.2.1 y5.2.2] 87)).alloc (.cells #[.int .i64 0, .int .i64 0, .int .i64 0, .int .i64 0, .int .i64 0, .int .i64 0, .int .i64 0, .bool false, .slice none 0 0, .bool false, .slice none 0 0, .slice none 0 0, .slice none 0 0, .slice none 0 0, .slice none 0 0] 87))):=⟨b0,zz,n0,n1⟩
 obtain⟨i0,hi0,hz0,hz1,hz2⟩:=info_parts Tryz.info119
 have RM:=Aj (Js (n:=D.l.length) (bytes:=48) (by omega) (by decide))
 have R1:Hid (∀u,Below w.heap.size w u->Row u (.slice xe.1 xe.2.1 xe.2.2) D.l.length (Af D.l)):=fun u hu=>p1.below hu
 have L2:Hid (∀u,Below w.heap.size w u->Calls Tryz.prog 75 #[.agg #[.bool l0, .slice y1.1 y1.2.1 y1.2.2, .slice y2.1 y2.2.1 y2.2.2, .slice y3.1 y3.2.1 y3.2.2, .slice y4.1 y4.2.1 y4.2.2, .slice y5.1 y5.2.1 y5.2.2]] u fun e w' =>∃m' :Bv,e= .returned m'.val/\AQ n w' (fun g=>u.heap.size<=g) m' D.T D.d/\Below u.heap.size u w'):=fun u hu=>Gp n ⟨⟨l0, .slice y1.1 y1.2.1 y1.2.2, .slice y2.1 y2.2.1 y2.2.2, .slice y3.1 y3.2.1 y3.2.2, .slice y4.1 y4.2.1 y4.2.2⟩, .slice y5.1 y5.2.1 y5.2.2⟩ D.T D.d u (p2.below hu) (by omega) hs3
 clear p1 hs1 hs2 hs3 b0 n0 n1 zz;clear p2;show Calls Tryz.prog 28 #[.agg #[.int .i64 kd, .int .i64 fr, .int .i64 tt, .int .i64 te, .int .i64 ix, .int .i64 it, .int .i64 cm, .bool ok, .slice xe.1 xe.2.1 xe.2.2, .bool l0, .slice y1.1 y1.2.1 y1.2.2, .slice y2.1 y2.2.1 y2.2.2, .slice y3.1 y3.2.1 y3.2.2, .slice y4.1 y4.2.1 y4.2.2, .slice y5.1 y5.2.1 y5.2.2]] w _
 go_enter Tryz.func28,Tryz.ntmps28
 go_upto_region 1 with fail
 generalize ((w.alloc (.cells #[.int .i64 kd, .int .i64 fr, .int .i64 tt, .int .i64 te, .int .i64 ix, .int .i64 it, .int .i64 cm, .bool ok, .slice xe.1 xe.2.1 xe.2.2, .bool l0, .slice y1.1 y1.2.1 y1.2.2, .slice y2.1 y2.2.1 y2.2.2, .slice y3.1 y3.2.1 y3.2.2, .slice y4.1 y4.2.1 y4.2.2, .slice y5.1 y5.2.1 y5.2.2] 87)).alloc (.cells #[.int .i64 0, .int .i64 0, .int .i64 0, .int .i64 0, .int .i64 0, .int .i64 0, .int .i64 0, .bool false, .slice none 0 0, .bool false, .slice none 0 0, .slice none 0 0, .slice none 0 0, .slice none 0 0, .slice none 0 0] 87))=V0 at *
 go_cut [] (fun wx=>∃x0:Option Addr × Nat × Nat,Hid (CRp w #[.int .i64 kd, .int .i64 fr, .int .i64 tt, .int .i64 te, .int .i64 ix, .int .i64 it, .int .i64 cm, .bool ok, .slice x0.1 x0.2.1 x0.2.2, .bool l0, .slice y1.1 y1.2.1 y1.2.2, .slice y2.1 y2.2.1 y2.2.2, .slice y3.1 y3.2.1 y3.2.2, .slice y4.1 y4.2.1 y4.2.2, .slice y5.1 y5.2.1 y5.2.2] wx)/\Hid (Ac wx (w.heap.size+2) 119 6 (.slice x0.1 x0.2.1 x0.2.2) D.l.length (Af D.l)))
 case first=>
  as_aux_lemma=>
   have c0:=fun j=>Aa (j:=j) G.out.2.2.1
   have GA:=Aj (G.out.step (Ae V0 (.cells #[] 119)))
   have ca:=fun j=>Aa (j:=j) GA.out.2.2.1
   have RA:=Aj (R1.out _ GA.out.1)
   go_wp2_with (at_builtin;refine BO (V0.alloc (.cells #[] 119)) rfl _ _ 62 rfl (w.heap.size+2) 119 i0 _ 6 48 Tryz.underlying62 hi0 hz0 hz1 hz2 rfl (by decide) (.slice (some ⟨V0.heap.size,0,none⟩) 0 0) 0 [] rfl (Ac.zero _ _ _ _ _) (.slice xe.1 xe.2.1 xe.2.2) D.l.length (Af D.l) rfl RA.out (AX _) (FL _) RM.out.1 RM.out.2 GA.out.2.1 ?_)
   intro z w1 AP;obtain⟨oz,cz,bz,_⟩:=AP
   obtain⟨x0,hz⟩:=oz.sl
   subst hz;have Oz:=Aj oz
   replace G:Hid (CRp w _ w1):=⟨GA.out.1.trans (bz.mono (by omega)),Nat.le_trans GA.out.2.1 cz.size,Al GA.out.2.2.1 cz (fun e=>A8 _ _ e),Al GA.out.2.2.2 cz (fun e=>A8 _ _ e)⟩
   clear RA;clear oz bz cz c0 ca GA;have ff1:∀j,w1.frozen? ⟨w.heap.size,j,none⟩=false:=fun j=>Ab G.out.2.2.1
   have dd0:∀j,w1.cell? ⟨w.heap.size,j,none⟩=(#[.int .i64 kd, .int .i64 fr, .int .i64 tt, .int .i64 te, .int .i64 ix, .int .i64 it, .int .i64 cm, .bool ok, .slice xe.1 xe.2.1 xe.2.2, .bool l0, .slice y1.1 y1.2.1 y1.2.2, .slice y2.1 y2.2.1 y2.2.2, .slice y3.1 y3.2.1 y3.2.2, .slice y4.1 y4.2.1 y4.2.2, .slice y5.1 y5.2.1 y5.2.2]:Array Value)[j]? :=fun j=>Aa G.out.2.2.1
   have GC:=Aj ((Chg.refl (fun g=>g=w.heap.size) w1).setAt w.heap.size 8 rfl (.slice x0.1 x0.2.1 x0.2.2))
   have n2:(w1.setCell ⟨w.heap.size,8,none⟩ (.slice x0.1 x0.2.1 x0.2.2)).heap[w.heap.size]? =some (.cells #[.int .i64 kd, .int .i64 fr, .int .i64 tt, .int .i64 te, .int .i64 ix, .int .i64 it, .int .i64 cm, .bool ok, .slice x0.1 x0.2.1 x0.2.2, .bool l0, .slice y1.1 y1.2.1 y1.2.2, .slice y2.1 y2.2.1 y2.2.2, .slice y3.1 y3.2.1 y3.2.2, .slice y4.1 y4.2.1 y4.2.2, .slice y5.1 y5.2.1 y5.2.2] 87 (0,0)):=heap_setCell_same w1 w.heap.size 8 _ _ _ G.out.2.2.1
   have G2:=Aj (G.out.sets GC.out n2)
   clear n2;go_wp2_with fail;go_meet;exact⟨x0,G2.out,Oz.out.chg GC.out (fun g hg e=>by have:=(Oz.out.lt g hg).1;omega)⟩
 case rest=>
  clear G R1 RM;obtain⟨x0,G,O1⟩:=hcut
  go_upto_region 2 with fail
  go_cut [] (fun wx=>∃(l1:Bool) (x1 x2 x3 x4 x5:Option Addr × Nat × Nat),Hid (CRp w #[.int .i64 kd, .int .i64 fr, .int .i64 tt, .int .i64 te, .int .i64 ix, .int .i64 it, .int .i64 cm, .bool ok, .slice x0.1 x0.2.1 x0.2.2, .bool l1, .slice x1.1 x1.2.1 x1.2.2, .slice x2.1 x2.2.1 x2.2.2, .slice x3.1 x3.2.1 x3.2.2, .slice x4.1 x4.2.1 x4.2.2, .slice x5.1 x5.2.1 x5.2.2] wx)/\Hid (Ac wx (w.heap.size+2) 119 6 (.slice x0.1 x0.2.1 x0.2.2) D.l.length (Af D.l))/\Hid (AQ n wx (fun g=>w.heap.size+2<=g) ⟨⟨l1, .slice x1.1 x1.2.1 x1.2.2, .slice x2.1 x2.2.1 x2.2.2, .slice x3.1 x3.2.1 x3.2.2, .slice x4.1 x4.2.1 x4.2.2⟩, .slice x5.1 x5.2.1 x5.2.2⟩ D.T D.d))
  case first=>
   as_aux_lemma=>
    have c0:=fun j=>Aa (j:=j) G.out.2.2.1
    go_wp2_with fail;refine(L2.out _ G.out.1).mono ?_
    rintro e w2 ⟨z,rfl,oz,bz⟩
    obtain⟨l1,x1,x2,x3,x4,x5,hz⟩:=AQ.sl oz
    subst hz;have Oz:Hid (AQ n w2 (fun g=>w.heap.size+2<=g) ⟨⟨l1, .slice x1.1 x1.2.1 x1.2.2, .slice x2.1 x2.2.1 x2.2.2, .slice x3.1 x3.2.1 x3.2.2, .slice x4.1 x4.2.1 x4.2.2⟩, .slice x5.1 x5.2.1 x5.2.2⟩ D.T D.d):=AQ.monoF oz (fun g hg=>Nat.le_trans G.out.2.1 hg)
    replace G:=Aj (G.out.step bz)
    replace O1:=Aj (O1.out.below bz)
    clear oz bz c0;have ff1:∀j,w2.frozen? ⟨w.heap.size,j,none⟩=false:=fun j=>Ab G.out.2.2.1
    have dd0:∀j,w2.cell? ⟨w.heap.size,j,none⟩=(#[.int .i64 kd, .int .i64 fr, .int .i64 tt, .int .i64 te, .int .i64 ix, .int .i64 it, .int .i64 cm, .bool ok, .slice x0.1 x0.2.1 x0.2.2, .bool l0, .slice y1.1 y1.2.1 y1.2.2, .slice y2.1 y2.2.1 y2.2.2, .slice y3.1 y3.2.1 y3.2.2, .slice y4.1 y4.2.1 y4.2.2, .slice y5.1 y5.2.1 y5.2.2]:Array Value)[j]? :=fun j=>Aa G.out.2.2.1
    have GC:=Aj ((((((((Chg.refl (fun g=>g=w.heap.size) w2).setAt w.heap.size 9 rfl (.bool l1)).setAt w.heap.size 10 rfl (.slice x1.1 x1.2.1 x1.2.2)).setAt w.heap.size 11 rfl (.slice x2.1 x2.2.1 x2.2.2)).setAt w.heap.size 12 rfl (.slice x3.1 x3.2.1 x3.2.2)).setAt w.heap.size 13 rfl (.slice x4.1 x4.2.1 x4.2.2)).setAt w.heap.size 14 rfl (.slice x5.1 x5.2.1 x5.2.2)))
    have n2:((((((w2.setCell ⟨w.heap.size,9,none⟩ (.bool l1)).setCell ⟨w.heap.size,10,none⟩ (.slice x1.1 x1.2.1 x1.2.2)).setCell ⟨w.heap.size,11,none⟩ (.slice x2.1 x2.2.1 x2.2.2)).setCell ⟨w.heap.size,12,none⟩ (.slice x3.1 x3.2.1 x3.2.2)).setCell ⟨w.heap.size,13,none⟩ (.slice x4.1 x4.2.1 x4.2.2)).setCell ⟨w.heap.size,14,none⟩ (.slice x5.1 x5.2.1 x5.2.2)).heap[w.heap.size]? =some (.cells #[.int .i64 kd, .int .i64 fr, .int .i64 tt, .int .i64 te, .int .i64 ix, .int .i64 it, .int .i64 cm, .bool ok, .slice x0.1 x0.2.1 x0.2.2, .bool l1, .slice x1.1 x1.2.1 x1.2.2, .slice x2.1 x2.2.1 x2.2.2, .slice x3.1 x3.2.1 x3.2.2, .slice x4.1 x4.2.1 x4.2.2, .slice x5.1 x5.2.1 x5.2.2] 87 (0,0)):=heap_setCell_same _ w.heap.size 14 _ _ _ (heap_setCell_same _ w.heap.size 13 _ _ _ (heap_setCell_same _ w.heap.size 12 _ _ _ (heap_setCell_same _ w.heap.size 11 _ _ _ (heap_setCell_same _ w.heap.size 10 _ _ _ (heap_setCell_same _ w.heap.size 9 _ _ _ G.out.2.2.1)))))
    have G2:=Aj (G.out.sets GC.out n2)
    clear n2;go_wp2_with fail;go_meet;exact⟨l1,x1,x2,x3,x4,x5,G2.out,O1.out.chg GC.out (fun g hg e=>by have:=(O1.out.lt g hg).1;omega),AQ.chg Oz.out GC.out (fun g hg e=>by omega)⟩
  case rest=>
   clear G O1 L2;obtain⟨l1,x1,x2,x3,x4,x5,G,O1,O2⟩:=hcut
   obtain⟨cs,hcs⟩:∃cs:List Value,cs=[.int .i64 kd, .int .i64 fr, .int .i64 tt, .int .i64 te, .int .i64 ix, .int .i64 it, .int .i64 cm, .bool ok, .slice x0.1 x0.2.1 x0.2.2, .bool l1, .slice x1.1 x1.2.1 x1.2.2, .slice x2.1 x2.2.1 x2.2.2, .slice x3.1 x3.2.1 x3.2.2, .slice x4.1 x4.2.1 x4.2.2, .slice x5.1 x5.2.1 x5.2.2]:=⟨_,rfl⟩
   have RG:Hid (wc.rangeAt w.heap.size 0 cs):=by rw[hcs];exact Ao G.out.2.2.1
   have TH:Hid (wc.there (w.heap.size+1) 0 cs.toArray.size):=by rw[hcs];exact Ba G.out.2.2.2 rfl
   have HI:Hid ((Tryz.prog.info? 87).map (·.size)=some cs.length):=by rw[hcs];exact(show(Tryz.prog.info? 87).map (·.size)=some 15 by kernel_rfl)
   have ONE:Hid (cs.toArray.all (·.oneCell')=true):=by rw[hcs];show _=_;simp[Value.oneCell']
   have GC:Chg (fun g=>g=w.heap.size+1) wc (wc.setCells (w.heap.size+1) 0 cs):=Chg.setCells (F:=fun b=>b=w.heap.size+1) (g:=w.heap.size+1) (fun _=>rfl) cs 0 wc (Chg.refl _ _)
   have X1:Hid ((wc.setCells (w.heap.size+1) 0 cs).heap[w.heap.size+1]? =some (.cells cs.toArray 87 (0,0))):=A7 G.out.2.2.2 cs (by rw[hcs];rfl)
   have B2:=Aj (G.out.1.trans (GC.below (fun g _ hg=>by omega) G.out.1.size))
   have FIN:Hid (∃M:BP,Value.agg cs.toArray=M.val/\BP.like ⟨kd,fr,tt,te,ix,it,cm,ok, .slice xe.1 xe.2.1 xe.2.2,⟨⟨l0, .slice y1.1 y1.2.1 y1.2.2, .slice y2.1 y2.2.1 y2.2.2, .slice y3.1 y3.2.1 y3.2.2, .slice y4.1 y4.2.1 y4.2.2⟩, .slice y5.1 y5.2.1 y5.2.2⟩⟩ M/\Fh n (wc.setCells (w.heap.size+1) 0 cs) (fun g=>w.heap.size<=g) M D/\Below w.heap.size w (wc.setCells (w.heap.size+1) 0 cs)):=
    ⟨⟨kd,fr,tt,te,ix,it,cm,ok, .slice x0.1 x0.2.1 x0.2.2,⟨⟨l1, .slice x1.1 x1.2.1 x1.2.2, .slice x2.1 x2.2.1 x2.2.2, .slice x3.1 x3.2.1 x3.2.2, .slice x4.1 x4.2.1 x4.2.2⟩, .slice x5.1 x5.2.1 x5.2.2⟩⟩,by rw[hcs],⟨rfl,rfl,rfl,rfl,rfl,rfl,rfl,rfl⟩,⟨⟨(O1.out.chg GC (fun g hg e=>by have:=(O1.out.lt g hg).1;omega)).mono (Nat.zero_le _),fun g hg=>by have:=(O1.out.lt g hg).1;omega⟩,AQ.monoF (G:=fun g=>w.heap.size<=g) (AQ.chg O2.out GC (fun g hg e=>by omega)) (fun g hg=>by omega)⟩,B2.out⟩
   clear hcs GC G B2 O1 O2;go_wp2_with (first|(refine wpList_load_mid rfl 87 _ rfl w.heap.size 0 rfl cs _ RG.out Tryz.underlying87 rfl HI.out ?_)|(refine wpList_store_mid rfl 87 _ _ rfl (w.heap.size+1) 0 cs.toArray rfl rfl TH.out HI.out ONE.out ?_))
   generalize wc.setCells (w.heap.size+1) 0 cs=WF at *
   exact⟨rfl,_,results_cell_row Tryz.results28 _ WF (w.heap.size+1) 87 cs.toArray (0,0) _ rfl X1.out Tryz.underlying87 rfl HI.out,(by obtain⟨M,e,r⟩:=FIN.out;exact⟨M,by rw[e],r⟩)⟩
end
end Go.Proofs.YtkcaelfkcepdkaaGreat
