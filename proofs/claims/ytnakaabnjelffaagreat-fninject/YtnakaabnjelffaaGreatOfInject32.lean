/-
  The program's leavesOf: one leaf, or several of two pairs each where they are too many for one.
  The program's rootOver: one tree of what came.
-/
import Derived.Test.YtnakaabnjelffaaGreatOfInject31
import Derived.Test.YtnakaabnjelffaaGreatOfInject23
import Derived.WalkMore
import Derived.ScopeJumps
namespace Go.Proofs.YtnakaabnjelffaaGreat
set_option maxRecDepth 100000
set_option maxHeartbeats 8000000
section
open Go.RowKit

theorem NK (F:Nat->Prop) (v:Value) (ps:PL) (w:World) (hr:Aj w F v ps.length (Au ps)) (h5:5<=ps.length) (hn:ps.length<=1048576) :
  Calls Tryz.prog 53 #[v] w fun e w' =>∃v1 v2,e= .returned (.agg #[v1,v2])/\Ad 1 w' (fun b=>F b∨w.heap.size<=b) v1 (lfT ps 0)/\Aj w' (fun b=>F b∨w.heap.size<=b) v2 (lfC ps 0).length (Ab (lfC ps 0))/\Below w.heap.size w w' :=by
 obtain⟨i0,hi0,hz0,hz1,hz2⟩:=info_parts Tryz.info29
 obtain⟨j0,hj0',hy0,hy1,hy2⟩:=info_parts Tryz.info3
 have HT:=hid (hr.lt (Rh _).2)
 obtain⟨av,b1,off1,c1,hvt,hcap1,hmax1,ha1,ck,_⟩:=hr.row.pairs
 subst hvt;have hav:=ha1 (by omega)
 subst hav;have hmax1' :=hmax1
 unfold maxLen at hmax1;clear hr ha1;have TA:=hid (fun j (hj:j<ps.length)=>WW hj)
 have CA:=hid (fun j (hj:j<ps.length)=>Wi hj)
 have TE:Hid (∀j,¬j<ps.length->lfT ps j=[]):=fun j hj=>by show _=_;rw[I7,if_neg hj]
 have CE:Hid (∀j,¬j<ps.length->lfC ps j=[]):=fun j hj=>by show _=_;rw[Ii,if_neg hj]
 have MN:=hid (Br)
 have M3:Hid (AM 3=3):=rfl
 have CK:=hid (fun (j:Nat) (w1:World) (hb:Below w.heap.size w w1) (hj:j<ps.length)=>Ac hb (Aa (ck j hj)) (ck j hj))
 have NEW:Hid (∀(j M:Nat) (w1:World),Below w.heap.size w w1->2<=M->j+M<=ps.length->Aq 1 w1 (fun g=>F g/\g<w.heap.size) ⟨true, .slice (some ⟨b1,off1+j*2,none⟩) M (c1-j), .slice none 0 0, .slice none 0 0, .slice none 0 0⟩ (Dr ((ps.drop j).take M))):=fun j M w1 hb hM hj=>by
  refine Aq.mk rfl ?_ (Aj.nil _ _) (Aj.nil _ _) (Ad.nil _ _ _)
  have:=(HT.out.below hb).subF (size:=2) j M (by omega) (by omega)
  rw[Ly,LB] at this
  show Aj w1 _ _ ((ps.drop j).take M).length _
  rw[show((ps.drop j).take M).length=M by simp;omega]
  exact this
 have TW:Hid (∀w0,Calls Tryz.prog 93 #[.slice (some ⟨b1,off1,none⟩) ps.length c1] w0 fun e w' =>∃v,e= .returned v/\w'.ownsRow w0.heap.size 24 1 v (AB ps.length 0).length ((AB ps.length 0).map (EB b1 off1 c1 2))/\Below w0.heap.size w0 w'):=fun w0=>QJ b1 off1 ps.length c1 w0 (by omega) (by omega) hmax1' hn
 have PD:Hid (∀i k,(AB ps.length 0).drop k=AB ps.length i->i<ps.length->k<(AB ps.length 0).length/\(AB ps.length 0)[k]? =some (i,AM (ps.length-i))/\(AB ps.length 0).drop (k+1)=AB ps.length (i+AM (ps.length-i))):=fun i k=>Lk
 have PE:Hid (∀i k,(AB ps.length 0).drop k=AB ps.length i->¬i<ps.length->(AB ps.length 0).length<=k):=fun i k=>Lj
 have PN:(AB ps.length 0).length<=1048576:=Nat.le_trans (IH _ _) (by omega)
 have RL:Hid (∀g,g=w.heap.size+1->¬((F g/\g<w.heap.size)∨w.heap.size+1+1<=g)):=fun g hg k=>by omega
 clear HT ck;generalize hT0:lfT ps 0=T0 at *
 generalize hC0:lfC ps 0=C0 at *
 have T00:Hid (lfT ps 0=T0):=hT0
 have C00:Hid (lfC ps 0=C0):=hC0
 clear hT0 hC0;generalize hn1:ps.length=n1 at *
 clear hn1;have hng:¬((n1:Int)<=4):=by omega
 go_enter Tryz.func53,Tryz.ntmps53
 go_wp2_with fail;refine Calls.mono (TW.out _) ?_
 rintro e w1 ⟨vp,rfl,op,bp⟩
 have hL0:0<(AB n1 0).length:=(PD.out 0 0 rfl (by omega)).1
 obtain⟨gp,qp,hvp,hLq,hqm⟩:=Og op hL0
 subst hvp;have X1:Ai w1 w.heap.size #[.slice none 0 0, .slice none 0 0]:=((Ai.start w #[.slice none 0 0, .slice none 0 0]).step (al1 _ _)).step bp
 have X2:Ai w1 (w.heap.size+1) #[.slice none 0 0, .slice none 0 0]:=by
  have:=Ai.start (w.alloc (.cells #[.slice none 0 0, .slice none 0 0] 52)) #[.slice none 0 0, .slice none 0 0]
  rw[World.size_alloc] at this
  exact this.step bp
 have B0:Below w.heap.size w w1:=Below.and (al2 w _ _) bp
 generalize hPL:(AB n1 0).map (EB b1 off1 c1 2)=PL at *
 have PLl:PL.length=(AB n1 0).length:=by rw[←hPL,List.length_map]
 have PLa:Hid (∀k i M,(AB n1 0)[k]? =some (i,M)->PL[k]? =some (Value.slice (some ⟨b1,off1+i*2,none⟩) M (c1-i))):=fun k i M h=>by rw[←hPL,List.getElem?_map,h];rfl
 have OP:w1.ownsRow (w.heap.size+1+1) 24 1 (.slice (some ⟨gp,0,none⟩) (AB n1 0).length qp) PL.length PL:=by
  rw[PLl]
  exact AR op (by simp)
 clear hPL;have J0:Hid (FkJ 1 24 1 (fun g=>(F g/\g<w.heap.size)∨w.heap.size+1+1<=g) w w1 (.slice none 0 0) (.slice none 0 0) [] [] (.slice (some ⟨gp,0,none⟩) (AB n1 0).length qp) PL/\Ai w1 w.heap.size #[.slice none 0 0, .slice none 0 0]):=⟨⟨AX.nil _ _ _ _,X2,B0,OP⟩,X1⟩
 clear op bp X1 X2 B0 OP;have PLh:Hid (PL.length=(AB n1 0).length):=PLl
 clear PLl;have P00:Hid ((AB n1 0).drop 0=AB n1 0):=rfl
 generalize hL:(AB n1 0).length=L at *
 clear hL;unfold maxLen at hqm;go_wp2;go_loopw [15] (fun ix wr=>∃(i k:Nat) (ts:List Tr) (cs:List Int) (a1 a2:Option Addr) (q1 q2:Nat),ix= .int .i64 k/\i<=n1/\(2<=n1-i∨n1<=i)/\k<=L/\ts.length<=i/\cs.length<=i/\(k=0->i=0)/\(0<k->0<i)/\Hid ((AB n1 0).drop k=AB n1 i)/\Hid (ts++lfT ps i=T0)/\Hid (cs++lfC ps i=C0)/\Hid (FkJ 1 24 1 (fun g=>(F g/\g<w.heap.size)∨w.heap.size+1+1<=g) w wr (.slice a1 ts.length q1) (.slice a2 cs.length q2) ts cs (.slice (some ⟨gp,0,none⟩) L qp) PL/\Ai wr w.heap.size #[.slice none 0 0, .slice none 0 0]))
  (fun ix _=>L-(intOf ix).toNat)
 case atStart=>exact⟨0,0,[],[],none,none,0,0,rfl,Nat.zero_le _,by omega,Nat.zero_le _,Nat.le_refl _,Nat.le_refl _,by omega,by omega,P00,T00,C00,J0⟩
 case round=>
  obtain⟨i,k,ts,cs,a1,a2,q1,q2,rfl,hin,hij,hkL,htl,hcl,hk0i,hki,DP,ET,EC,J⟩:=hrel
  clear J0 P00 T00 C00;by_cases hlt:i<n1
  ·obtain⟨hkl,hpk,hdk⟩:=PD.out i k DP.out hlt
   have PT:=PLa.out k i _ hpk
   have MN1:=MN.out (n1-i)
   have MM:Hid (n1-i=3->AM (n1-i)=3):=fun h=>by show _;rw[h];exact M3.out
   have TA1:Hid _:=TA.out i hlt
   have CA1:Hid _:=CA.out i hlt
   have NW1:Hid _:=NEW.out i (AM (n1-i))
   generalize AM (n1-i)=M at *
   have hM' :i+M<=n1:=by have:=MM.out;omega
   have hM2:2<=M:=by omega
   have NW2:=hid (fun w1 (hb:Below w.heap.size w w1)=>NW1.out w1 hb hM2 hM')
   have DP2:=hid (hdk)
   have PC:wr.cell? ⟨gp,k,none⟩=some (.slice (some ⟨b1,off1+i*2,none⟩) M (c1-i)):=by
    have h:=J.out.1.ow
    rw[PLh.out] at h
    rw[h.cellAt k (by omega)]
    exact PT
   have CKi:=hid (fun w1 (hb:Below w.heap.size w w1)=>CK.out i w1 hb hlt)
   clear hpk hdk PT NW1 DP;have hk0:(0:Int)<=(k:Int):=by omega
   have hkL' :(k:Int)<(L:Int):=by omega
   go_upto_if 21 with fail
   go_cut [5] (fun s5 wx=>s5= .slice (some ⟨b1,off1+i*2,none⟩) M (c1-i)/\∃(cs' :List Int) (a3:Option Addr) (q3:Nat),cs'.length<=i+1/\Hid (cs' ++lfC ps (i+M)=C0)/\Hid (FkJ 1 24 1 (fun g=>(F g/\g<w.heap.size)∨w.heap.size+1+1<=g) w wx (.slice a1 ts.length q1) (.slice a3 cs'.length q3) ts cs' (.slice (some ⟨gp,0,none⟩) L qp) PL/\Ai wx w.heap.size #[.slice none 0 0, .slice none 0 0]))
   case first=>
    clear PC;by_cases hk00:k=0
    ·have hi00:=hk0i hk00
     have EC' :Hid (cs++lfC ps (i+M)=C0):=by
      have h1:=CA1.out
      have h2:=EC.out
      rw[h1,if_neg (by omega)] at h2
      show _=_
      simpa using h2
     have hkn:¬((0:Int)<(k:Int)):=by omega
     clear hk00 hi00;go_wp2;go_meet
     case rel=>exact⟨rfl,cs,a2,q2,by omega,EC',J⟩
    ·have hi00:=hki (by omega)
     have EC' :Hid ((cs++[kOf ps i])++lfC ps (i+M)=C0):=by
      have h1:=CA1.out
      have h2:=EC.out
      rw[h1,if_pos (by omega)] at h2
      show _=_
      simpa using h2
     generalize kOf ps i=x1 at *
     have hpos:(0:Int)<(k:Int):=by omega
     have hM0:0<M:=by omega
     have hM0' :(0:Int)<(M:Int):=by omega
     have Jd:Hid (FkJ 1 24 1 (fun g=>(F g/\g<w.heap.size)∨w.heap.size+1+1<=g) w wr.drew (.slice a1 ts.length q1) (.slice a2 cs.length q2) ts cs (.slice (some ⟨gp,0,none⟩) L qp) PL/\Ai wr.drew w.heap.size #[.slice none 0 0, .slice none 0 0]):=⟨J.out.1.step (Below.refl _ _).drew,J.out.2⟩
     have hS:wr.drew.cell? ⟨w.heap.size+1,1,none⟩=some (.slice a2 cs.length q2)/\wr.drew.cell? ⟨b1,off1+i*2,none⟩=some (.int .i64 x1):=⟨Jd.out.1.bx.two.2,CKi.out _ Jd.out.1.bw⟩
     clear J ET TA1 CA1 EC MM hk00 hi00;go_wp2_with fail;refine AF (fun w' =>w'.cell? ⟨w.heap.size+1,1,none⟩=some (.slice a2 cs.length q2)/\w'.cell? ⟨b1,off1+i*2,none⟩=some (.int .i64 x1)) [_,_,_,_,_,_,_,_,_] _ rfl (by kernel_rfl) (by kernel_rfl) ?_
     generalize wr.drew=wd at *
     refine tq 0 rfl (by kernel_rfl) (fun _ _ _ h=>h) (by assumption) rfl (by intro w h;go_simp<;>with_reducible rfl) ?_
     try simp only[Act.put,sA,sB,sC]
     refine tq 1 rfl (by kernel_rfl) (fun _ _ _ h=>h) (by assumption) rfl (by intro w h;go_simp<;>with_reducible rfl) ?_
     try simp only[Act.put,sA,sB,sC]
     refine tq 2 rfl (by kernel_rfl) (fun _ _ _ h=>h) (by assumption) rfl (by intro w h;go_simp<;>with_reducible rfl) ?_
     try simp only[Act.put,sA,sB,sC]
     refine tq 3 rfl (by kernel_rfl) (fun _ _ _ h=>h) (by assumption) rfl (by intro w h;go_simp<;>with_reducible rfl) ?_
     try simp only[Act.put,sA,sB,sC]
     refine tq 4 rfl (by kernel_rfl) (fun _ _ _ h=>h) (by assumption) rfl (by intro w h;go_simp<;>with_reducible rfl) ?_
     try simp only[Act.put,sA,sB,sC]
     refine tq 5 rfl (by kernel_rfl) (fun _ _ _ h=>h) (by assumption) rfl (by intro w h;go_simp<;>with_reducible rfl) ?_
     try simp only[Act.put,sA,sB,sC]
     refine rq 6 (by kernel_rfl) rfl (fun K hK=> ?_)
     go_simp
     refine hK.out _ _ ⟨Ac (al1 wd _) (Aa hS.1) hS.1,Ac (al1 wd _) (Aa hS.2) hS.2⟩ (fun hH=> ?_)
     clear hK K;try simp only[Act.put,sA,sB,sC]
     refine rq 7 (by kernel_rfl) rfl (fun K hK=> ?_)
     have HR1:Hid _:=Bl (n:=cs.length) (bytes:=8) (by omega) (by decide)
     have Ja:=Jd.out.1.step (al1 wd (.cells #[.int .i64 x1] 3))
     refine Bi (wd.alloc (.cells #[.int .i64 x1] 3)) rfl _ _ 25 rfl (w.heap.size+1+1) 3 j0 _ 1 8 Tryz.underlying25 hj0' hy0 hy1 hy2 rfl (by decide) (.slice a2 cs.length q2) cs.length (Ab cs) rfl Ja.om.rowC (.slice (some ⟨wd.heap.size,0,none⟩) 1 1) 1 (Ab [x1]) rfl (Row.laid wd (Ab [x1]) 3 _ rfl) rfl (BT _) HR1.out.1 HR1.out.2 (by have:=Ja.bx.lt;omega) ?_
     intro v5 w5 A5;obtain⟨bx5,J5⟩:=Ja.stepC (by decide) RL.out (ds:=[x1]) A5
     have hlo:∀g,wrB (.slice a2 cs.length q2) g->w.heap.size+1+1<=g:=fun g hg=>(Ja.om.rowC.lt g hg).1
     have br5:Ai w5 w.heap.size #[.slice none 0 0, .slice none 0 0]:=(Jd.out.2.step (al1 _ _)).chg A5.2.1 (fun h=>by have:=hlo _ h;omega)
     obtain⟨_,_,a3,q3,_,hv5⟩:=J5.om.shape
     subst hv5;have BW5:Below w.heap.size w w5:=Ja.below' A5.2.1 (fun g hg=>by have:=hlo g hg;omega)
     have kk:=CKi.out w5 BW5
     obtain⟨m0,m1⟩:=bx5.two
     obtain⟨f0,f1⟩:=bx5.free
     have FIN:Hid (FkJ 1 24 1 (fun g=>(F g/\g<w.heap.size)∨w.heap.size+1+1<=g) w (w5.setCell ⟨w.heap.size+1,1,none⟩ (.slice a3 (cs++[x1]).length q3)) (.slice a1 ts.length q1) (.slice a3 (cs++[x1]).length q3) ts (cs++[x1]) (.slice (some ⟨gp,0,none⟩) L qp) PL/\Ai (w5.setCell ⟨w.heap.size+1,1,none⟩ (.slice a3 (cs++[x1]).length q3)) w.heap.size #[.slice none 0 0, .slice none 0 0]):=⟨J5,br5.chg (At w5 (w.heap.size+1) 1 _) (by omega)⟩
     clear A5 J5 bx5 br5 BW5 hS hH Ja hlo;refine hK.out _ _ ⟨m1,kk⟩ (fun hH=> ?_)
     clear hK K;try simp only[Act.put,sA,sB,sC]
     refine tq 8 rfl (by kernel_rfl) (fun _ _ _ h=>h) (by assumption) rfl (by intro w h;go_simp<;>with_reducible rfl) ?_
     try simp only[Act.put,sA,sB,sC]
     refine wpAnyH_done (by kernel_rfl) ?_ _
     show Oper.wp _ _ _ _ _ _
     go_simp
     clear m0 m1 f0 f1 hH kk;go_wp2_with fail;go_meet
     case rel=>exact⟨rfl,cs++[x1],a3,q3,by simp;omega,EC',(by have h:=FIN.out;rw[show(cs++[x1]).length=cs.length+1 by simp] at h ⊢;exact h)⟩
   case rest=>
   obtain⟨rfl,cs',a3,q3,hcl',EC2,J2⟩:=hcut
   have ET2:Hid ((ts++[Dr ((ps.drop i).take M)])++lfT ps (i+M)=T0):=by
    have h1:=TA1.out
    have h2:=ET.out
    rw[h1] at h2
    show _=_
    simpa using h2
   have hMM:2<=n1-(i+M)∨n1<=i+M:=by have:=MM.out;omega
   generalize Dr ((ps.drop i).take M)=PT at *
   have Ja:=J2.out.1.step (al1 wc (.cells #[.bool true, .slice (some ⟨b1,off1+i*2,none⟩) M (c1-i), .slice none 0 0, .slice none 0 0, .slice none 0 0] 29))
   obtain⟨xs,y1,y2,y3,y4,y5⟩:=Ja.om
   have hlo:∀g,wrB (.slice a1 ts.length q1) g->w.heap.size+1+1<=g:=fun g hg=>(y2.lt g hg).1
   have hlc:∀g,wrB (.slice a3 cs'.length q3) g->w.heap.size+1+1<=g:=fun g hg=>(y3.lt g hg).1
   have HR1:Hid _:=Bl (n:=xs.length) (bytes:=104) (by omega) (by decide)
   have hbs:w.heap.size+1+1<=(wc.alloc (.cells #[.bool true, .slice (some ⟨b1,off1+i*2,none⟩) M (c1-i), .slice none 0 0, .slice none 0 0, .slice none 0 0] 29)).heap.size:=by have:=Ja.bx.lt;omega
   have OX:=hid (y2)
   have HBS:Hid _:=hbs
   have ST:Hid (∀v5 w5,FQ (wc.alloc (.cells #[.bool true, .slice (some ⟨b1,off1+i*2,none⟩) M (c1-i), .slice none 0 0, .slice none 0 0, .slice none 0 0] 29)) (w.heap.size+1+1) 29 5 (.slice a1 ts.length q1) (xs.length+1) (Ap xs++Ap [⟨true, .slice (some ⟨b1,off1+i*2,none⟩) M (c1-i), .slice none 0 0, .slice none 0 0, .slice none 0 0⟩]) v5 w5->∃(a4:Option Addr) (q4:Nat),v5= .slice a4 (ts.length+1) q4/\Ai w5 (w.heap.size+1) #[.slice a1 ts.length q1, .slice a3 cs'.length q3]/\FkJ 1 24 1 (fun g=>(F g/\g<w.heap.size)∨w.heap.size+1+1<=g) w (w5.setCell ⟨w.heap.size+1,0,none⟩ (.slice a4 (ts.length+1) q4)) (.slice a4 (ts.length+1) q4) (.slice a3 cs'.length q3) (ts++[PT]) cs' (.slice (some ⟨gp,0,none⟩) L qp) PL/\Ai (w5.setCell ⟨w.heap.size+1,0,none⟩ (.slice a4 (ts.length+1) q4)) w.heap.size #[.slice none 0 0, .slice none 0 0]):=fun v5 w5 A5=>by
    obtain⟨bx5,J5⟩:=Ja.stepT (by decide) RL.out (ys:=[⟨true, .slice (some ⟨b1,off1+i*2,none⟩) M (c1-i), .slice none 0 0, .slice none 0 0, .slice none 0 0⟩]) (m:=1) rfl (us:=[PT]) rfl (fun j hj=>by
     have e:j=0:=by simp at hj;omega
     subst e;exact(NW2.out _ Ja.bw).mono fun g hg=>⟨.inl hg,fun h=>by have:=hlo g h;omega,fun h=>by have:=hlc g h;omega⟩) y1 y5 y2 A5
    obtain⟨a4,q4,_,_,hv5,_⟩:=J5.om.shape
    rw[List.length_append] at hv5
    subst hv5;exact⟨a4,q4,rfl,bx5,J5,((J2.out.2.step (al1 _ _)).chg A5.2.1 (fun h=>by have:=hlo _ h;omega)).chg (At w5 (w.heap.size+1) 0 _) (by omega)⟩
   obtain⟨g0,g1⟩:=J2.out.1.bx.two
   clear J J2 ET TA1 CA1 EC MM PC CK TA CA y1 y2 y3 y4 y5 hlo hlc Ja hbs;go_wp2_with (at_builtin;refine Dj (wc.alloc (.cells #[.bool true, .slice (some ⟨b1,off1+i*2,none⟩) M (c1-i), .slice none 0 0, .slice none 0 0, .slice none 0 0] 29)) rfl _ _ 26 rfl (w.heap.size+1+1) 29 i0 _ 5 104 Tryz.underlying26 hi0 hz0 hz1 hz2 rfl (by decide) (.slice a1 ts.length q1) xs.length (Ap xs) rfl OX.out (.slice (some ⟨wc.heap.size,0,none⟩) 1 1) 1 (Ap [⟨true, .slice (some ⟨b1,off1+i*2,none⟩) M (c1-i), .slice none 0 0, .slice none 0 0, .slice none 0 0⟩]) rfl (Row.laid wc [.bool true, .slice (some ⟨b1,off1+i*2,none⟩) M (c1-i), .slice none 0 0, .slice none 0 0, .slice none 0 0] 29 _ rfl) rfl Nm HR1.out.1 HR1.out.2 HBS.out ?_)
   intro v5 w5 A5;obtain⟨a4,q4,hv5,bx5,JF⟩:=ST.out v5 w5 A5
   subst hv5;obtain⟨m0,m1⟩:=bx5.two
   obtain⟨f0,f1⟩:=bx5.free
   have FIN:Hid _:=JF
   have htl2:(ts++[PT]).length=ts.length+1:=by simp
   clear A5 bx5 JF g0 g1 ST OX HBS HR1;go_wp2;go_roundw
   case rel=>exact⟨i+M,k+1,ts++[PT],cs',a4,a3,q4,q3,by go_num,hM',hMM,by omega,by omega,by omega,by omega,by omega,DP2,ET2,EC2,(by rw[htl2];exact FIN)⟩
   case measure=>simp[intOf];omega
  ·have hkk:k=L:=by
    have:=PE.out i k DP.out hlt
    omega
   have E1:Hid (ts=T0):=by
    have:=ET.out
    rw[TE.out i hlt,List.append_nil] at this
    exact this
   have E2:Hid (cs=C0):=by
    have:=EC.out
    rw[CE.out i hlt,List.append_nil] at this
    exact this
   have hnk:¬((k:Int)<(L:Int)):=by omega
   obtain⟨r0,r1⟩:=J.out.1.bx.two
   obtain⟨z0,z1⟩:=J.out.2.two
   obtain⟨y0,y1⟩:=J.out.2.free
   have FIN:Hid (∀x y,Ad 1 (setR wr w.heap.size x y) (fun b=>F b∨w.heap.size<=b) (.slice a1 ts.length q1) ts/\Aj (setR wr w.heap.size x y) (fun b=>F b∨w.heap.size<=b) (.slice a2 cs.length q2) cs.length (Ab cs)/\Below w.heap.size w (setR wr w.heap.size x y)/\Ai (setR wr w.heap.size x y) w.heap.size #[x,y]):=fun x y=>by
    have o1:=J.out.1.om.chg (Av wr w.heap.size x y) (fun g hg=>⟨fun k=>by omega,by omega⟩)
    obtain⟨t1,t2⟩:=o1.trees (fun g hg=> .inr hg)
    refine⟨t1.mono (fun g hg=> ?_),t2.mono (fun g hg=> ?_),(J.out.1.bw.setCell (p:=⟨w.heap.size,0,none⟩) (Nat.le_refl _) x).setCell (p:=⟨w.heap.size,1,none⟩) (Nat.le_refl _) y,J.out.2.set2 x y⟩
    ·rcases hg with hg|hg
     ·exact .inl hg.1
     ·exact .inr (by omega)
    ·rcases hg with hg|hg
     ·exact .inl hg.1
     ·exact .inr (by omega)
   clear J ET EC hkk;go_wp2;obtain⟨f1,f2,f3,f4⟩:=FIN.out (.slice a1 ts.length q1) (.slice a2 cs.length q2)
   have Z:=f4.two
   have e1:ts=T0:=E1.out
   have e2:cs=C0:=E2.out
   subst e1 e2;exact bodyPost_ret (v:= .agg #[.slice a1 ts.length q1, .slice a2 cs.length q2]) (by simp[results,Tryz.results53,go_sem,Z.1,Z.2]) rfl ⟨_,_,rfl,f1,f2,f3⟩

theorem Pj (F:Nat->Prop) (v:Value) (ps:PL) (w:World) (hr:Aj w F v ps.length (Au ps)) (h4:ps.length<=4) :
  Calls Tryz.prog 53 #[v] w fun e w' =>∃v1,e= .returned (.agg #[v1, .slice none 0 0])/\Ad 1 w' (fun b=>F b∨w.heap.size<=b) v1 [Dr ps]/\Below w.heap.size w w' :=by
 have hT:Aq 1 w F ⟨true,v, .slice none 0 0, .slice none 0 0, .slice none 0 0⟩ (Dr ps):=Aq.mk rfl hr (Aj.nil _ _) (Aj.nil _ _) (Ad.nil _ _ _)
 obtain⟨a1,q1,hvt,_⟩:=hr.row.len
 subst hvt;have HR:Hid (∀w1,Below w.heap.size w w1->Calls Tryz.prog 66 #[.agg #[.bool true, .slice a1 ps.length q1, .slice none 0 0, .slice none 0 0, .slice none 0 0]] w1 fun e w' =>∃vt,e= .returned (.agg #[vt, .slice none 0 0])/\Ad 1 w' (fun g=>(F g/\g<w.heap.size)∨w1.heap.size<=g) vt [Dr ps]/\Below w1.heap.size w1 w'):=fun w1 hb=>
  GR 1 (fun g=>F g/\g<w.heap.size) ⟨true, .slice a1 ps.length q1, .slice none 0 0, .slice none 0 0, .slice none 0 0⟩ (Dr ps) w1 (hT.lt.below hb)
 clear hr hT;generalize ps.length=n1 at *
 have hle:(n1:Int)<=4:=by omega
 go_enter Tryz.func53,Tryz.ntmps53
 go_wp2_with fail;refine Calls.mono (HR.out _ (al1 _ _)) ?_
 rintro e w1 ⟨v1,rfl,t1,b1⟩
 obtain⟨xs,ex,rx⟩:=t1.els
 obtain⟨a5,q5,hv1,_⟩:=rx.row.len
 subst hv1;have X1:Ai w1 w.heap.size #[.slice none 0 0, .slice none 0 0]:=(Ai.start w #[.slice none 0 0, .slice none 0 0]).step b1
 have BW:Below w.heap.size w w1:=Below.and (al1 _ _) b1
 obtain⟨g0,g1⟩:=X1.two
 obtain⟨f0,f1⟩:=X1.free
 have hs2:w.heap.size+1<=(w.alloc (.cells #[.slice none 0 0, .slice none 0 0] 52)).heap.size:=by simp
 have FIN:Hid (Ad 1 (setR w1 w.heap.size (.slice a5 1 q5) (.slice none 0 0)) (fun b=>F b∨w.heap.size<=b) (.slice a5 1 q5) [Dr ps]/\Below w.heap.size w (setR w1 w.heap.size (.slice a5 1 q5) (.slice none 0 0))/\Ai (setR w1 w.heap.size (.slice a5 1 q5) (.slice none 0 0)) w.heap.size #[.slice a5 1 q5, .slice none 0 0]):=
  ⟨(t1.chg (Av w1 w.heap.size _ _) (fun g hg e=>by rcases hg with⟨_,h⟩|h<;>omega)).mono (fun g hg=>hg.imp And.left (fun h=>by omega)),(BW.setCell (p:=⟨w.heap.size,0,none⟩) (Nat.le_refl _) _).setCell (p:=⟨w.heap.size,1,none⟩) (Nat.le_refl _) _,X1.set2 _ _⟩
 clear t1 b1 X1 BW rx ex hs2;go_wp2;have Z:=FIN.out.2.2.two
 exact bodyPost_ret (v:= .agg #[.slice a5 1 q5, .slice none 0 0]) (by simp[results,Tryz.results53,go_sem,Z.1,Z.2]) rfl ⟨_,rfl,FIN.out.1,FIN.out.2.1⟩

theorem Pp (F:Nat->Prop) (v:Value) (ps:PL) (w:World) (hr:Aj w F v ps.length (Au ps)) (hn:ps.length<=1048576) :
  Calls Tryz.prog 53 #[v] w fun e w' =>∃v1 v2,e= .returned (.agg #[v1,v2])/\Ad 1 w' (fun b=>F b∨w.heap.size<=b) v1 (leafM ps).1/\Aj w' (fun b=>F b∨w.heap.size<=b) v2 (leafM ps).2.length (Ab (leafM ps).2)/\Below w.heap.size w w' :=by
 unfold leafM;by_cases h:ps.length<=4
 ·rw[if_pos h]
  refine(Pj F v ps w hr h).mono ?_
  rintro e w' ⟨v1,rfl,t,b⟩
  exact⟨v1,_,rfl,t,Aj.nil _ _,b⟩
 ·rw[if_neg h]
  exact NK F v ps w hr (by omega) hn
end
section
open Go.RowKit

theorem MY:∀f g d (m:TM),MOk d m->m.1.length<=f->m.1.length<=g->Bw f m=Bw g m
 |0,g,d,m,h,hf,_=>by have:=h.1;omega
 |f+1,0,d,m,h,_,hg=>by have:=h.1;omega
 |f+1,g+1,d,m,h,hf,hg=>by
  rw[Bw,Bw]
  split
  ·have hp:=Fv h (by omega)
   exact MY f g (d+1) (Co m) hp.1 (by omega) (by omega)
  ·rfl
theorem P7 {d:Nat} {m:TM} (h:MOk d m) (h2:2<=m.1.length):MOk (d+1) (Bc m)/\(Bc m).1.length<m.1.length:=by
 unfold Bc;split
 ·have hp:=Fv h h2
  exact⟨hp.1,by omega⟩
 ·exact⟨MOk.one (.inr ⟨rfl,rfl,h2,(by show m.1.length<=4;omega),h.1,by simp,h.2⟩),by simp;omega⟩
theorem Oo {d:Nat} {m:TM} (h:MOk d m) (h2:2<=m.1.length):Bw m.1.length m=Bw (Bc m).1.length (Bc m):=by
 have he:=P7 h h2
 obtain⟨k,hk⟩:∃k,m.1.length=k+1:=⟨m.1.length-1,by omega⟩
 rw[hk,Bw]
 by_cases h4:4<m.1.length
 ·have e:Bc m=Co m:=by rw[Bc,if_pos h4]
  rw[if_pos h4,e]
  rw[e] at he
  exact MY k _ (d+1) (Co m) he.1 (by omega) (Nat.le_refl _)
 ·have e:Bc m=([⟨false,[],m.2,m.1,[]⟩],[]):=by rw[Bc,if_neg h4]
  rw[if_neg h4,if_neg (by omega),e]
  simp[Bw]
theorem Qt {m:TM} (h:m.1.length=1):Bw m.1.length m=m.1.getD 0 Ah:=by
 rw[h,Bw,if_neg (by omega),if_pos h]

def CF (u:World) (B:Nat) (A:Array Value):Prop:=u.heap[B]? =some (.cells A 29 (0,0))
theorem CF.start (w:World) (A:Array Value):CF (w.alloc (.cells A 29)) w.heap.size A:=heap_alloc_new w _
theorem CF.step {u w' :World} {B:Nat} {A:Array Value} (h:CF u B A) (hb:Below u.heap.size u w'):CF w' B A:=(hb.block B (Array.getElem?_eq_some_iff.1 h).1).trans h
theorem CF.cells {u:World} {B:Nat} {A:Array Value} (h:CF u B A):∀j,u.cell? ⟨B,j,none⟩=A[j]? :=fun j=>cell_of_row u B j A 29 (0,0) h
theorem CF.free {u:World} {B:Nat} {A:Array Value} (h:CF u B A):∀j,u.frozen? ⟨B,j,none⟩=false:=fun j=>frozen_of_row u B j A 29 h
theorem CF.chg {w w' :World} {L:Nat} {A:Array Value} {p:Nat->Prop} (h:CF w L A) (hc:Chg p w w') (hp:¬p L):CF w' L A:=(hc.block L (Array.getElem?_eq_some_iff.1 h).1 hp).trans h
theorem CF.lt {u:World} {B:Nat} {A:Array Value} (h:CF u B A):B<u.heap.size:=(Array.getElem?_eq_some_iff.1 h).1
abbrev noT:Array Value:= #[.bool false, .slice none 0 0, .slice none 0 0, .slice none 0 0, .slice none 0 0]

abbrev WL (u:World) (L:Nat) (y0 y1 y2 y3 y4:Value):World:=((((u.setCell ⟨L,0,none⟩ y0).setCell ⟨L,1,none⟩ y1).setCell ⟨L,2,none⟩ y2).setCell ⟨L,3,none⟩ y3).setCell ⟨L,4,none⟩ y4
theorem CF.set5 {u:World} {L:Nat} {x0 x1 x2 x3 x4:Value} (h:CF u L #[x0,x1,x2,x3,x4]) (y0 y1 y2 y3 y4:Value):CF (WL u L y0 y1 y2 y3 y4) L #[y0,y1,y2,y3,y4]:=
 heap_setCell_same _ L 4 _ 29 y4 (heap_setCell_same _ L 3 _ 29 y3 (heap_setCell_same _ L 2 _ 29 y2 (heap_setCell_same _ L 1 _ 29 y1 (heap_setCell_same u L 0 _ 29 y0 h))))
theorem Nj (u:World) (L:Nat) (y0 y1 y2 y3 y4:Value):Chg (fun g=>g=L) u (WL u L y0 y1 y2 y3 y4):=(((((Chg.refl (fun g=>g=L) u).setAt L 0 rfl y0).setAt L 1 rfl y1).setAt L 2 rfl y2).setAt L 3 rfl y3).setAt L 4 rfl y4
theorem IY {w u:World} {L:Nat} (h:Below w.heap.size w u) (hL:w.heap.size<=L) (y0 y1 y2 y3 y4:Value):Below w.heap.size w (WL u L y0 y1 y2 y3 y4):=
 ((((h.setCell (p:=⟨L,0,none⟩) hL y0).setCell (p:=⟨L,1,none⟩) hL y1).setCell (p:=⟨L,2,none⟩) hL y2).setCell (p:=⟨L,3,none⟩) hL y3).setCell (p:=⟨L,4,none⟩) hL y4

def O8 (B:Nat) (w:World):Nat:=match w.cell? ⟨B,0,none⟩ with|some (.slice _ n _)=>n|_=>0

def RtJ (d:Nat) (F:Nat->Prop) (m:TM) (w u:World):Prop:=
 ∃(e:Nat) (x:TM) (a1 a2:Option Addr) (q1 q2:Nat),Ad e u (fun g=>(F g/\g<w.heap.size)∨w.heap.size+2<=g) (.slice a1 x.1.length q1) x.1/\Aj u (fun g=>(F g/\g<w.heap.size)∨w.heap.size+2<=g) (.slice a2 x.2.length q2) x.2.length (Ab x.2)∧
  MOk e x/\x.1.length<=1048576/\e+x.1.length<=d+m.1.length/\Bw x.1.length x=Bw m.1.length m/\Ai u w.heap.size #[.slice a1 x.1.length q1, .slice a2 x.2.length q2]/\CF u (w.heap.size+1) noT/\Below w.heap.size w u

theorem JE (d:Nat) (F:Nat->Prop) (vt vc:Value) (m:TM) (w:World) (ht:Ad d w F vt m.1) (hc:Aj w F vc m.2.length (Ab m.2)) (hm:MOk d m) (hn:m.1.length<=1048576) :
  Calls Tryz.prog 24 #[.agg #[vt,vc]] w fun e w' =>∃x:TV,e= .returned x.val/\Aq (d+m.1.length) w' (fun b=>F b∨w.heap.size<=b) x (Bw m.1.length m)/\Below w.heap.size w w' :=by
 obtain⟨a1,q1,hvt,_⟩:=ht.els.choose_spec.2.row.len
 obtain⟨a2,q2,hvc,_⟩:=hc.row.len
 subst hvt hvc;have J0:Hid (RtJ d F m w ((w.alloc (.cells #[.slice a1 m.1.length q1, .slice a2 m.2.length q2] 52)).alloc (.cells noT 29))):=
  ⟨d,m,a1,a2,q1,q2,(ht.lt.below (al2 _ _ _)).mono (fun g hg=> .inl hg),((hc.lt (Ch _).2).below (al2 _ _ _)).mono (fun g hg=> .inl hg),hm,hn,Nat.le_refl _,rfl,(Ai.start w _).step (al1 _ _),by
   have:=CF.start (w.alloc (.cells #[.slice a1 m.1.length q1, .slice a2 m.2.length q2] 52)) noT
   rw[World.size_alloc] at this
   exact this,al2 _ _ _⟩
 clear ht hc;have hm1:0<m.1.length:=by have:=hm.1;omega
 go_enter Tryz.func24,Tryz.ntmps24
 go_wp2;refine wp_scope_jumps 0 (fun a' u=>RtJ d F m w u/\∃(u3 u4 u5 u6 u7 u8 u9 u10 u11 u12:Value),a' ={ tmps:= #[.agg #[.slice a1 m.1.length q1, .slice a2 m.2.length q2], .pointer (some ⟨w.heap.size,0,none⟩), .pointer (some ⟨w.heap.size+1,0,none⟩),u3,u4,u5,u6,u7,u8,u9,u10,u11,u12],defers:=[] }) (fun _ u=>O8 w.heap.size u) rfl ?_ ?_
 ·refine Cj (fun u=>RtJ d F m w u) J0.out ?_
  rintro u ⟨e,x,b1,b2,p1,p2,j1,j2,j3,j4,j5,j6,j7,j8,j9⟩
  go_wp2;go_step3
  clear J0;obtain⟨j71,j72⟩:=j7.two
  have J8:=hid (j8)
  have J7:=hid (j7)
  have j3' :=j3.1
  by_cases h1:1<x.1.length
  ·have h1' :(1:Int)<(x.1.length:Int):=by omega
   have HF:=hid (GH e _ _ _ x u j1 j2 j3' j4)
   obtain⟨k1,k2⟩:=P7 j3 (by omega)
   have k3:=Oo j3 (by omega)
   have JJ:Hid (MOk (e+1) (Bc x)/\(Bc x).1.length<x.1.length/\Bw (Bc x).1.length (Bc x)=Bw m.1.length m/\e+x.1.length<=d+m.1.length/\Below w.heap.size w u):=⟨k1,k2,k3.symm.trans j6,j5,j9⟩
   clear j1 j2 j3 j5 j6 j7 j8 j9 j3' k1 k2 k3;go_wp2_with fail;refine Calls.mono HF.out ?_
   rintro e' w1 ⟨v1,v2,rfl,t1,r1,bb⟩
   obtain⟨c1,s1,hv1,_⟩:=t1.els.choose_spec.2.row.len
   obtain⟨c2,s2,hv2,_⟩:=r1.row.len
   subst hv1 hv2;have Z7:=J7.out.step bb
   obtain⟨g0,g1⟩:=Z7.two
   obtain⟨f0,f1⟩:=Z7.free
   have hu2:w.heap.size+2<=u.heap.size:=by have:=J8.out.lt;omega
   have NX:Hid (RtJ d F m w (setR w1 w.heap.size (.slice c1 (Bc x).1.length s1) (.slice c2 (Bc x).2.length s2))):=by
    obtain⟨i1,i2,i3,i4,i5⟩:=JJ.out
    refine⟨e+1,Bc x,c1,c2,s1,s2,(t1.chg (Av w1 w.heap.size _ _) (fun g hg e=> ?_)).mono (fun g hg=> ?_),(r1.chg (Av w1 w.heap.size _ _) (fun g hg e=> ?_)).mono (fun g hg=> ?_),i1,by omega,by omega,i3,Z7.set2 _ _,(J8.out.step bb).chg (Av w1 w.heap.size _ _) (by omega),((Below.and i5 bb).setCell (p:=⟨w.heap.size,0,none⟩) (Nat.le_refl _) _).setCell (p:=⟨w.heap.size,1,none⟩) (Nat.le_refl _) _⟩
    ·rcases hg with(⟨_,h⟩|h)|h<;>omega
    ·rcases hg with(h|h)|h
     ·exact .inl h
     ·exact .inr h
     ·exact .inr (by omega)
    ·rcases hg with(⟨_,h⟩|h)|h<;>omega
    ·rcases hg with(h|h)|h
     ·exact .inl h
     ·exact .inr h
     ·exact .inr (by omega)
   have hlt:=JJ.out.2.1
   have Z:Hid _:=(Z7.set2 (.slice c1 (Bc x).1.length s1) (.slice c2 (Bc x).2.length s2)).two
   clear t1 r1 bb Z7 hu2 JJ;go_wp2;go_step3
   refine⟨rfl,⟨?_,_,_,_,_,_,_,_,_,_,_,rfl⟩⟩
   ·exact NX.out
  ·have h1n:¬((1:Int)<(x.1.length:Int)):=by omega
   have e1:x.1.length=1:=by omega
   obtain⟨xs,ex,rx⟩:=j1.els
   rw[←ex.1] at rx
   obtain⟨_,bb1,oo1,cc1,hv,_,_,ha,c0,c1,c2,c3,c4⟩:=rx.row.trees
   have hxs:xs.length=1:=by rw[ex.1,e1]
   simp only[Value.slice.injEq] at hv
   obtain⟨rfl,_,rfl⟩:=hv
   have ha' :=ha (by omega)
   subst ha';have d0:=c0 0 (by omega)
   have d1:=c1 0 (by omega)
   have d2:=c2 0 (by omega)
   have d3:=c3 0 (by omega)
   have d4:=c4 0 (by omega)
   simp only[Nat.zero_mul,Nat.add_zero] at d0 d1 d2 d3 d4
   have T0:=ex.2 0 (by omega)
   obtain⟨r1,r2,r3,r4,z1,z2,z3,z4,hy⟩:=T0.treeAt.shape
   rw[hy] at T0 d0 d1 d2 d3 d4
   simp only at d0 d1 d2 d3 d4
   have R0:=Qt e1
   rw[j6] at R0
   rw[←R0] at T0 d0 d1 d2 d3 d4
   have TT:=hid (T0)
   have BB:Hid (e+x.1.length<=d+m.1.length/\Below w.heap.size w u):=⟨j5,j9⟩
   have z8:=j8.cells
   have BZ:=hid (j8)
   have z9:=j8.free
   generalize (Bw m.1.length m).leaf=lf at *
   generalize (Bw m.1.length m).pairs.length=m1 at *
   generalize (Bw m.1.length m).cuts.length=m2 at *
   generalize (Bw m.1.length m).kids.length=m3 at *
   generalize (Bw m.1.length m).buf.length=m4 at *
   have hxl:x.1.length=1:=e1
   rw[hxl] at j71
   rw[hxl] at h1n
   clear j1 j2 j3 j5 j6 j7 j8 j9 j3' ex rx ha c0 c1 c2 c3 c4 e1 R0 J7 T0 hy hxs h1 hxl;go_wp2;simp only[Exit.jump]
   have Z:=(BZ.out.set5 (.bool lf) (.slice r1 m1 z1) (.slice r2 m2 z2) (.slice r3 m3 z3) (.slice r4 m4 z4)).cells
   refine bodyPost_ret (v:= .agg #[.bool lf, .slice r1 m1 z1, .slice r2 m2 z2, .slice r3 m3 z3, .slice r4 m4 z4]) (by simp[results,Tryz.results24,go_sem,Z]) rfl ⟨⟨lf, .slice r1 m1 z1, .slice r2 m2 z2, .slice r3 m3 z3, .slice r4 m4 z4⟩,rfl, ?_, ?_⟩
   ·exact((TT.out.chg (Nj u (w.heap.size+1) (.bool lf) (.slice r1 m1 z1) (.slice r2 m2 z2) (.slice r3 m3 z3) (.slice r4 m4 z4)) (fun g hg e=>by rcases hg with⟨_,h⟩|h<;>omega)).mono (fun g hg=>hg.imp And.left (fun h=>by omega))).le (by have:=BB.out.1;omega)
   ·exact IY BB.out.2 (Nat.le_succ _) _ _ _ _ _
 ·rintro a' u ⟨⟨e,x,b1,b2,p1,p2,j1,j2,j3,j4,j5,j6,j7,j8,j9⟩,u3,u4,u5,u6,u7,u8,u9,u10,u11,u12,rfl⟩
  clear J0;obtain⟨j71,j72⟩:=j7.two
  have J8:=hid (j8)
  have J7:=hid (j7)
  have j3' :=j3.1
  by_cases h1:1<x.1.length
  ·have h1' :(1:Int)<(x.1.length:Int):=by omega
   have HF:=hid (GH e _ _ _ x u j1 j2 j3' j4)
   obtain⟨k1,k2⟩:=P7 j3 (by omega)
   have k3:=Oo j3 (by omega)
   have JJ:Hid (MOk (e+1) (Bc x)/\(Bc x).1.length<x.1.length/\Bw (Bc x).1.length (Bc x)=Bw m.1.length m/\e+x.1.length<=d+m.1.length/\Below w.heap.size w u):=⟨k1,k2,k3.symm.trans j6,j5,j9⟩
   clear j1 j2 j3 j5 j6 j7 j8 j9 j3' k1 k2 k3;go_wp2_with fail;refine Calls.mono HF.out ?_
   rintro e' w1 ⟨v1,v2,rfl,t1,r1,bb⟩
   obtain⟨c1,s1,hv1,_⟩:=t1.els.choose_spec.2.row.len
   obtain⟨c2,s2,hv2,_⟩:=r1.row.len
   subst hv1 hv2;have Z7:=J7.out.step bb
   obtain⟨g0,g1⟩:=Z7.two
   obtain⟨f0,f1⟩:=Z7.free
   have hu2:w.heap.size+2<=u.heap.size:=by have:=J8.out.lt;omega
   have NX:Hid (RtJ d F m w (setR w1 w.heap.size (.slice c1 (Bc x).1.length s1) (.slice c2 (Bc x).2.length s2))):=by
    obtain⟨i1,i2,i3,i4,i5⟩:=JJ.out
    refine⟨e+1,Bc x,c1,c2,s1,s2,(t1.chg (Av w1 w.heap.size _ _) (fun g hg e=> ?_)).mono (fun g hg=> ?_),(r1.chg (Av w1 w.heap.size _ _) (fun g hg e=> ?_)).mono (fun g hg=> ?_),i1,by omega,by omega,i3,Z7.set2 _ _,(J8.out.step bb).chg (Av w1 w.heap.size _ _) (by omega),((Below.and i5 bb).setCell (p:=⟨w.heap.size,0,none⟩) (Nat.le_refl _) _).setCell (p:=⟨w.heap.size,1,none⟩) (Nat.le_refl _) _⟩
    ·rcases hg with(⟨_,h⟩|h)|h<;>omega
    ·rcases hg with(h|h)|h
     ·exact .inl h
     ·exact .inr h
     ·exact .inr (by omega)
    ·rcases hg with(⟨_,h⟩|h)|h<;>omega
    ·rcases hg with(h|h)|h
     ·exact .inl h
     ·exact .inr h
     ·exact .inr (by omega)
   have hlt:=JJ.out.2.1
   have Z:Hid _:=(Z7.set2 (.slice c1 (Bc x).1.length s1) (.slice c2 (Bc x).2.length s2)).two
   clear t1 r1 bb Z7 hu2 JJ;go_wp2;go_step3
   refine⟨rfl,⟨?_,_,_,_,_,_,_,_,_,_,_,rfl⟩, ?_⟩
   ·exact NX.out
   ·show O8 _ _<O8 _ _
    unfold O8;rw[Z.out.1,j71]
    exact hlt
  ·have h1n:¬((1:Int)<(x.1.length:Int)):=by omega
   have e1:x.1.length=1:=by omega
   obtain⟨xs,ex,rx⟩:=j1.els
   rw[←ex.1] at rx
   obtain⟨_,bb1,oo1,cc1,hv,_,_,ha,c0,c1,c2,c3,c4⟩:=rx.row.trees
   have hxs:xs.length=1:=by rw[ex.1,e1]
   simp only[Value.slice.injEq] at hv
   obtain⟨rfl,_,rfl⟩:=hv
   have ha' :=ha (by omega)
   subst ha';have d0:=c0 0 (by omega)
   have d1:=c1 0 (by omega)
   have d2:=c2 0 (by omega)
   have d3:=c3 0 (by omega)
   have d4:=c4 0 (by omega)
   simp only[Nat.zero_mul,Nat.add_zero] at d0 d1 d2 d3 d4
   have T0:=ex.2 0 (by omega)
   obtain⟨r1,r2,r3,r4,z1,z2,z3,z4,hy⟩:=T0.treeAt.shape
   rw[hy] at T0 d0 d1 d2 d3 d4
   simp only at d0 d1 d2 d3 d4
   have R0:=Qt e1
   rw[j6] at R0
   rw[←R0] at T0 d0 d1 d2 d3 d4
   have TT:=hid (T0)
   have BB:Hid (e+x.1.length<=d+m.1.length/\Below w.heap.size w u):=⟨j5,j9⟩
   have z8:=j8.cells
   have BZ:=hid (j8)
   have z9:=j8.free
   generalize (Bw m.1.length m).leaf=lf at *
   generalize (Bw m.1.length m).pairs.length=m1 at *
   generalize (Bw m.1.length m).cuts.length=m2 at *
   generalize (Bw m.1.length m).kids.length=m3 at *
   generalize (Bw m.1.length m).buf.length=m4 at *
   have hxl:x.1.length=1:=e1
   rw[hxl] at j71
   rw[hxl] at h1n
   clear j1 j2 j3 j5 j6 j7 j8 j9 j3' ex rx ha c0 c1 c2 c3 c4 e1 R0 J7 T0 hy hxs h1 hxl;go_wp2;simp only[Exit.jump]
   have Z:=(BZ.out.set5 (.bool lf) (.slice r1 m1 z1) (.slice r2 m2 z2) (.slice r3 m3 z3) (.slice r4 m4 z4)).cells
   refine bodyPost_ret (v:= .agg #[.bool lf, .slice r1 m1 z1, .slice r2 m2 z2, .slice r3 m3 z3, .slice r4 m4 z4]) (by simp[results,Tryz.results24,go_sem,Z]) rfl ⟨⟨lf, .slice r1 m1 z1, .slice r2 m2 z2, .slice r3 m3 z3, .slice r4 m4 z4⟩,rfl, ?_, ?_⟩
   ·exact((TT.out.chg (Nj u (w.heap.size+1) (.bool lf) (.slice r1 m1 z1) (.slice r2 m2 z2) (.slice r3 m3 z3) (.slice r4 m4 z4)) (fun g hg e=>by rcases hg with⟨_,h⟩|h<;>omega)).mono (fun g hg=>hg.imp And.left (fun h=>by omega))).le (by have:=BB.out.1;omega)
   ·exact IY BB.out.2 (Nat.le_succ _) _ _ _ _ _
end
end Go.Proofs.YtnakaabnjelffaaGreat
