/-
  The program's leavesOf: one leaf, or several of two pairs each where they are too many for one.
  The contract of the model's l4Most.
-/
import Derived.Test.YtcmofojechfccaaGreatOfDrain29
import Derived.Test.YtcmofojechfccaaGreatOfDrain16
namespace Go.Proofs.YtcmofojechfccaaGreat
set_option maxRecDepth 100000
set_option maxHeartbeats 8000000
section
open Go.RowKit

theorem leavesOf_many (F:Nat->Prop) (v:Value) (ps:PL) (w:World) (hr:RowF w F v ps.length (flatP ps)) (h5:5<=ps.length) (hn:ps.length<=1048576) :
  Calls Tryz.prog 114 #[v] w fun e w' =>∃v1 v2,e= .returned (.agg #[v1,v2])/\TreesF 1 w' (fun b=>F b∨w.heap.size<=b) v1 (lfT ps 0)/\RowF w' (fun b=>F b∨w.heap.size<=b) v2 (lfC ps 0).length (flatI (lfC ps 0))/\Below w.heap.size w w' :=by
 obtain⟨i0,hi0,hz0,hz1,hz2⟩:=info_parts Tryz.info35
 obtain⟨j0,hj0',hy0,hy1,hy2⟩:=info_parts Tryz.info3
 have HT:=hid (hr.lt (flatP_ne _).2)
 obtain⟨av,b1,off1,c1,hvt,hcap1,hmax1,ha1,ck,_⟩:=hr.row.pairs
 subst hvt
 have hav:=ha1 (by omega)
 subst hav
 have hmax1' :=hmax1
 unfold maxLen at hmax1
 clear hr ha1
 have TA:=hid (fun j (hj:j<ps.length)=>lfT_at hj)
 have CA:=hid (fun j (hj:j<ps.length)=>lfC_at hj)
 have TE:Hid (∀j,¬j<ps.length->lfT ps j=[]):=fun j hj=>by show _=_;rw[lfT_eq,if_neg hj]
 have CE:Hid (∀j,¬j<ps.length->lfC ps j=[]):=fun j hj=>by show _=_;rw[lfC_eq,if_neg hj]
 have MN:=hid (manyN_two)
 have M3:Hid (manyN 3=3):=rfl
 have CK:=hid (fun (j:Nat) (w1:World) (hb:Below w.heap.size w w1) (hj:j<ps.length)=>cell_lowB hb (cell_lt (ck j hj)) (ck j hj))
 have NEW:Hid (∀(j M:Nat) (w1:World),Below w.heap.size w w1->2<=M->j+M<=ps.length->TreeF 1 w1 (fun g=>F g/\g<w.heap.size) ⟨true, .slice (some ⟨b1,off1+j*2,none⟩) M (c1-j), .slice none 0 0, .slice none 0 0, .slice none 0 0⟩ (leafT ((ps.drop j).take M))):=fun j M w1 hb hM hj=>by
  refine TreeF.mk rfl ?_ (RowF.nil _ _) (RowF.nil _ _) (TreesF.nil _ _ _)
  have:=(HT.out.below hb).subF (size:=2) j M (by omega) (by omega)
  rw[flatP_drop,flatP_take] at this
  show RowF w1 _ _ ((ps.drop j).take M).length _
  rw[show((ps.drop j).take M).length=M by simp;omega]
  exact this
 have TW:Hid (∀w0,Calls Tryz.prog 145 #[.slice (some ⟨b1,off1,none⟩) ps.length c1] w0 fun e w' =>∃v,e= .returned v/\w'.ownsRow w0.heap.size 31 1 v (pieces ps.length 0).length ((pieces ps.length 0).map (pieceV b1 off1 c1 2))/\Below w0.heap.size w0 w'):=fun w0=>inTwosP_any b1 off1 ps.length c1 w0 (by omega) (by omega) hmax1' hn
 have PD:Hid (∀i k,(pieces ps.length 0).drop k=pieces ps.length i->i<ps.length->k<(pieces ps.length 0).length/\(pieces ps.length 0)[k]? =some (i,manyN (ps.length-i))/\(pieces ps.length 0).drop (k+1)=pieces ps.length (i+manyN (ps.length-i))):=fun i k=>pieces_drop
 have PE:Hid (∀i k,(pieces ps.length 0).drop k=pieces ps.length i->¬i<ps.length->(pieces ps.length 0).length<=k):=fun i k=>pieces_done
 have PN:(pieces ps.length 0).length<=1048576:=Nat.le_trans (pieces_length _ _) (by omega)
 have RL:Hid (∀g,g=w.heap.size+1->¬((F g/\g<w.heap.size)∨w.heap.size+1+1<=g)):=fun g hg k=>by omega
 clear HT ck
 generalize hT0:lfT ps 0=T0 at *
 generalize hC0:lfC ps 0=C0 at *
 have T00:Hid (lfT ps 0=T0):=hT0
 have C00:Hid (lfC ps 0=C0):=hC0
 clear hT0 hC0
 generalize hn1:ps.length=n1 at *
 clear hn1
 have hng:¬((n1:Int)<=4):=by omega
 go_enter Tryz.func114,Tryz.ntmps114
 go_wp2_with fail
 refine Calls.mono (TW.out _) ?_
 rintro e w1 ⟨vp,rfl,op,bp⟩
 have hL0:0<(pieces n1 0).length:=(PD.out 0 0 rfl (by omega)).1
 obtain⟨gp,qp,hvp,hLq,hqm⟩:=owns_some op hL0
 subst hvp
 have X1:BoxR w1 w.heap.size #[.slice none 0 0, .slice none 0 0]:=((BoxR.start w #[.slice none 0 0, .slice none 0 0]).step (al1 _ _)).step bp
 have X2:BoxR w1 (w.heap.size+1) #[.slice none 0 0, .slice none 0 0]:=by
  have:=BoxR.start (w.alloc (.cells #[.slice none 0 0, .slice none 0 0] 96)) #[.slice none 0 0, .slice none 0 0]
  rw[World.size_alloc] at this
  exact this.step bp
 have B0:Below w.heap.size w w1:=Below.and (al2 w _ _) bp
 generalize hPL:(pieces n1 0).map (pieceV b1 off1 c1 2)=PL at *
 have PLl:PL.length=(pieces n1 0).length:=by rw[←hPL,List.length_map]
 have PLa:Hid (∀k i M,(pieces n1 0)[k]? =some (i,M)->PL[k]? =some (Value.slice (some ⟨b1,off1+i*2,none⟩) M (c1-i))):=fun k i M h=>by rw[←hPL,List.getElem?_map,h];rfl
 have OP:w1.ownsRow (w.heap.size+1+1) 31 1 (.slice (some ⟨gp,0,none⟩) (pieces n1 0).length qp) PL.length PL:=by
  rw[PLl]
  exact owns_mono op (by simp)
 clear hPL
 have J0:Hid (FkJ 1 31 1 (fun g=>(F g/\g<w.heap.size)∨w.heap.size+1+1<=g) w w1 (.slice none 0 0) (.slice none 0 0) [] [] (.slice (some ⟨gp,0,none⟩) (pieces n1 0).length qp) PL/\BoxR w1 w.heap.size #[.slice none 0 0, .slice none 0 0]):=⟨⟨OutM.nil _ _ _ _,X2,B0,OP⟩,X1⟩
 clear op bp X1 X2 B0 OP
 have PLh:Hid (PL.length=(pieces n1 0).length):=PLl
 clear PLl
 have P00:Hid ((pieces n1 0).drop 0=pieces n1 0):=rfl
 generalize hL:(pieces n1 0).length=L at *
 clear hL
 unfold maxLen at hqm
 go_wp2
 go_loopw [15] (fun ix wr=>∃(i k:Nat) (ts:List Tr) (cs:List Int) (a1 a2:Option Addr) (q1 q2:Nat),ix= .int .i64 k/\i<=n1/\(2<=n1-i∨n1<=i)/\k<=L/\ts.length<=i/\cs.length<=i/\(k=0->i=0)/\(0<k->0<i)/\Hid ((pieces n1 0).drop k=pieces n1 i)/\Hid (ts++lfT ps i=T0)/\Hid (cs++lfC ps i=C0)/\Hid (FkJ 1 31 1 (fun g=>(F g/\g<w.heap.size)∨w.heap.size+1+1<=g) w wr (.slice a1 ts.length q1) (.slice a2 cs.length q2) ts cs (.slice (some ⟨gp,0,none⟩) L qp) PL/\BoxR wr w.heap.size #[.slice none 0 0, .slice none 0 0]))
  (fun ix _=>L-(intOf ix).toNat)
 case atStart=>exact⟨0,0,[],[],none,none,0,0,rfl,Nat.zero_le _,by omega,Nat.zero_le _,Nat.le_refl _,Nat.le_refl _,by omega,by omega,P00,T00,C00,J0⟩
 case round=>
  obtain⟨i,k,ts,cs,a1,a2,q1,q2,rfl,hin,hij,hkL,htl,hcl,hk0i,hki,DP,ET,EC,J⟩:=hrel
  clear J0 P00 T00 C00
  by_cases hlt:i<n1
  ·obtain⟨hkl,hpk,hdk⟩:=PD.out i k DP.out hlt
   have PT:=PLa.out k i _ hpk
   have MN1:=MN.out (n1-i)
   have MM:Hid (n1-i=3->manyN (n1-i)=3):=fun h=>by show _;rw[h];exact M3.out
   have TA1:Hid _:=TA.out i hlt
   have CA1:Hid _:=CA.out i hlt
   have NW1:Hid _:=NEW.out i (manyN (n1-i))
   generalize manyN (n1-i)=M at *
   have hM' :i+M<=n1:=by have:=MM.out;omega
   have hM2:2<=M:=by omega
   have NW2:=hid (fun w1 (hb:Below w.heap.size w w1)=>NW1.out w1 hb hM2 hM')
   have DP2:=hid (hdk)
   have PC:wr.cell? ⟨gp,k,none⟩=some (.slice (some ⟨b1,off1+i*2,none⟩) M (c1-i)):=by
    have h:=J.out.1.ow
    rw[PLh.out] at h
    rw[h.cellAt k (by omega)]
    exact PT
   have CKi:=hid (fun w1 (hb:Below w.heap.size w w1)=>CK.out i w1 hb hlt)
   clear hpk hdk PT NW1 DP
   have hk0:(0:Int)<=(k:Int):=by omega
   have hkL' :(k:Int)<(L:Int):=by omega
   go_upto_if 21 with fail
   go_cut [5] (fun s5 wx=>s5= .slice (some ⟨b1,off1+i*2,none⟩) M (c1-i)/\∃(cs' :List Int) (a3:Option Addr) (q3:Nat),cs'.length<=i+1/\Hid (cs' ++lfC ps (i+M)=C0)/\Hid (FkJ 1 31 1 (fun g=>(F g/\g<w.heap.size)∨w.heap.size+1+1<=g) w wx (.slice a1 ts.length q1) (.slice a3 cs'.length q3) ts cs' (.slice (some ⟨gp,0,none⟩) L qp) PL/\BoxR wx w.heap.size #[.slice none 0 0, .slice none 0 0]))
   case first=>
    clear PC
    by_cases hk00:k=0
    ·have hi00:=hk0i hk00
     have EC' :Hid (cs++lfC ps (i+M)=C0):=by
      have h1:=CA1.out
      have h2:=EC.out
      rw[h1,if_neg (by omega)] at h2
      show _=_
      simpa using h2
     have hkn:¬((0:Int)<(k:Int)):=by omega
     clear hk00 hi00
     go_wp2
     go_meet
     case rel=>exact⟨rfl,cs,a2,q2,by omega,EC',J⟩
    ·have hi00:=hki (by omega)
     have EC' :Hid ((cs++[kOf ps i])++lfC ps (i+M)=C0):=by
      have h1:=CA1.out
      have h2:=EC.out
      rw[h1,if_pos (by omega)] at h2
      show _=_
      simpa using h2
     generalize kOf ps i=x1 at *
     have hpos:(0:Int)<(k:Int):=by omega
     have hM0:0<M:=by omega
     have hM0' :(0:Int)<(M:Int):=by omega
     have Jd:Hid (FkJ 1 31 1 (fun g=>(F g/\g<w.heap.size)∨w.heap.size+1+1<=g) w wr.drew (.slice a1 ts.length q1) (.slice a2 cs.length q2) ts cs (.slice (some ⟨gp,0,none⟩) L qp) PL/\BoxR wr.drew w.heap.size #[.slice none 0 0, .slice none 0 0]):=⟨J.out.1.step (Below.refl _ _).drew,J.out.2⟩
     have hS:wr.drew.cell? ⟨w.heap.size+1,1,none⟩=some (.slice a2 cs.length q2)/\wr.drew.cell? ⟨b1,off1+i*2,none⟩=some (.int .i64 x1):=⟨Jd.out.1.bx.two.2,CKi.out _ Jd.out.1.bw⟩
     clear J ET TA1 CA1 EC MM hk00 hi00
     go_wp2_with fail
     refine wp_region_last (fun w' =>w'.cell? ⟨w.heap.size+1,1,none⟩=some (.slice a2 cs.length q2)/\w'.cell? ⟨b1,off1+i*2,none⟩=some (.int .i64 x1)) [_,_,_,_,_,_,_,_,_] _ rfl (by kernel_rfl) (by kernel_rfl) ?_
     generalize wr.drew=wd at *
     refine tk 0 (oi:=⟨_,_,_,_,_,_⟩) (v:= ?_) rfl (by kernel_rfl) (fun _ _ _ h=>h) (Or.inl ⟨by rfl, ?_⟩) (by assumption) ?_
     rotate_left
     ·((intro w hSw;(try dsimp only at hSw);go_simp);(try with_reducible rfl))
     try simp only[Act.put,sA,sB,sC]
     refine tk 1 (oi:=⟨_,_,_,_,_,_⟩) (v:= ?_) rfl (by kernel_rfl) (fun _ _ _ h=>h) (Or.inl ⟨by rfl, ?_⟩) (by assumption) ?_
     rotate_left
     ·((intro w hSw;(try dsimp only at hSw);go_simp);(try with_reducible rfl))
     try simp only[Act.put,sA,sB,sC]
     refine tk 2 (oi:=⟨_,_,_,_,_,_⟩) (v:= ?_) rfl (by kernel_rfl) (fun _ _ _ h=>h) (Or.inl ⟨by rfl, ?_⟩) (by assumption) ?_
     rotate_left
     ·((intro w hSw;(try dsimp only at hSw);go_simp);(try with_reducible rfl))
     try simp only[Act.put,sA,sB,sC]
     refine tk 3 (oi:=⟨_,_,_,_,_,_⟩) (v:= ?_) rfl (by kernel_rfl) (fun _ _ _ h=>h) (Or.inl ⟨by rfl, ?_⟩) (by assumption) ?_
     rotate_left
     ·((intro w hSw;(try dsimp only at hSw);go_simp);(try with_reducible rfl))
     try simp only[Act.put,sA,sB,sC]
     refine tk 4 (oi:=⟨_,_,_,_,_,_⟩) (v:= ?_) rfl (by kernel_rfl) (fun _ _ _ h=>h) (Or.inl ⟨by rfl, ?_⟩) (by assumption) ?_
     rotate_left
     ·((intro w hSw;(try dsimp only at hSw);go_simp);(try with_reducible rfl))
     try simp only[Act.put,sA,sB,sC]
     refine tk 5 (oi:=⟨_,_,_,_,_,_⟩) (v:= ?_) rfl (by kernel_rfl) (fun _ _ _ h=>h) (Or.inl ⟨by rfl, ?_⟩) (by assumption) ?_
     rotate_left
     ·((intro w hSw;(try dsimp only at hSw);go_simp);(try with_reducible rfl))
     try simp only[Act.put,sA,sB,sC]
     refine wpAnyH_ready (rs:=[6]) (by kernel_rfl) (by simp) ?_
     refine AllReadyH.cons (o:=⟨_,_,_,_,_,_⟩) rfl (fun K hK=> ?_) AllReadyH.nil
     go_simp
     refine hK.out _ _ ⟨cell_lowB (al1 wd _) (cell_lt hS.1) hS.1,cell_lowB (al1 wd _) (cell_lt hS.2) hS.2⟩ (fun hH=> ?_)
     clear hK K
     try simp only[Act.put,sA,sB,sC]
     refine wpAnyH_ready (rs:=[7]) (by kernel_rfl) (by simp) ?_
     refine AllReadyH.cons (o:=⟨_,_,_,_,_,_⟩) rfl (fun K hK=> ?_) AllReadyH.nil
     have HR1:Hid _:=room_of (n:=cs.length) (bytes:=8) (by omega) (by decide)
     have Ja:=Jd.out.1.step (al1 wd (.cells #[.int .i64 x1] 3))
     refine step_appE (wd.alloc (.cells #[.int .i64 x1] 3)) rfl _ _ 23 rfl (w.heap.size+1+1) 3 j0 _ 1 8 Tryz.underlying23 hj0' hy0 hy1 hy2 rfl (by decide) (.slice a2 cs.length q2) cs.length (flatI cs) rfl Ja.om.rowC (.slice (some ⟨wd.heap.size,0,none⟩) 1 1) 1 (flatI [x1]) rfl (Row.laid wd (flatI [x1]) 3 _ rfl) rfl (flatI_one _) HR1.out.1 HR1.out.2 (by have:=Ja.bx.lt;omega) ?_
     intro v5 w5 A5
     obtain⟨bx5,J5⟩:=Ja.stepC (by decide) RL.out (ds:=[x1]) A5
     have hlo:∀g,wrB (.slice a2 cs.length q2) g->w.heap.size+1+1<=g:=fun g hg=>(Ja.om.rowC.lt g hg).1
     have br5:BoxR w5 w.heap.size #[.slice none 0 0, .slice none 0 0]:=(Jd.out.2.step (al1 _ _)).chg A5.2.1 (fun h=>by have:=hlo _ h;omega)
     obtain⟨_,_,a3,q3,_,hv5⟩:=J5.om.shape
     subst hv5
     have BW5:Below w.heap.size w w5:=Ja.below' A5.2.1 (fun g hg=>by have:=hlo g hg;omega)
     have kk:=CKi.out w5 BW5
     obtain⟨m0,m1⟩:=bx5.two
     obtain⟨f0,f1⟩:=bx5.free
     have FIN:Hid (FkJ 1 31 1 (fun g=>(F g/\g<w.heap.size)∨w.heap.size+1+1<=g) w (w5.setCell ⟨w.heap.size+1,1,none⟩ (.slice a3 (cs++[x1]).length q3)) (.slice a1 ts.length q1) (.slice a3 (cs++[x1]).length q3) ts (cs++[x1]) (.slice (some ⟨gp,0,none⟩) L qp) PL/\BoxR (w5.setCell ⟨w.heap.size+1,1,none⟩ (.slice a3 (cs++[x1]).length q3)) w.heap.size #[.slice none 0 0, .slice none 0 0]):=⟨J5,br5.chg (chg_set1 w5 (w.heap.size+1) 1 _) (by omega)⟩
     clear A5 J5 bx5 br5 BW5 hS hH Ja hlo
     refine hK.out _ _ ⟨m1,kk⟩ (fun hH=> ?_)
     clear hK K
     try simp only[Act.put,sA,sB,sC]
     refine tk 8 (oi:=⟨_,_,_,_,_,_⟩) (v:= ?_) rfl (by kernel_rfl) (fun _ _ _ h=>h) (Or.inl ⟨by rfl, ?_⟩) (by assumption) ?_
     rotate_left
     ·((intro w hSw;(try dsimp only at hSw);go_simp);(try with_reducible rfl))
     try simp only[Act.put,sA,sB,sC]
     refine wpAnyH_done (by kernel_rfl) ?_ _
     show Oper.wp _ _ _ _ _ _
     go_simp
     clear m0 m1 f0 f1 hH kk
     go_wp2_with fail
     go_meet
     case rel=>exact⟨rfl,cs++[x1],a3,q3,by simp;omega,EC',(by have h:=FIN.out;rw[show(cs++[x1]).length=cs.length+1 by simp] at h ⊢;exact h)⟩
   case rest=>
   obtain⟨rfl,cs',a3,q3,hcl',EC2,J2⟩:=hcut
   have ET2:Hid ((ts++[leafT ((ps.drop i).take M)])++lfT ps (i+M)=T0):=by
    have h1:=TA1.out
    have h2:=ET.out
    rw[h1] at h2
    show _=_
    simpa using h2
   have hMM:2<=n1-(i+M)∨n1<=i+M:=by have:=MM.out;omega
   generalize leafT ((ps.drop i).take M)=PT at *
   have Ja:=J2.out.1.step (al1 wc (.cells #[.bool true, .slice (some ⟨b1,off1+i*2,none⟩) M (c1-i), .slice none 0 0, .slice none 0 0, .slice none 0 0] 35))
   obtain⟨xs,y1,y2,y3,y4,y5⟩:=Ja.om
   have hlo:∀g,wrB (.slice a1 ts.length q1) g->w.heap.size+1+1<=g:=fun g hg=>(y2.lt g hg).1
   have hlc:∀g,wrB (.slice a3 cs'.length q3) g->w.heap.size+1+1<=g:=fun g hg=>(y3.lt g hg).1
   have HR1:Hid _:=room_of (n:=xs.length) (bytes:=104) (by omega) (by decide)
   have hbs:w.heap.size+1+1<=(wc.alloc (.cells #[.bool true, .slice (some ⟨b1,off1+i*2,none⟩) M (c1-i), .slice none 0 0, .slice none 0 0, .slice none 0 0] 35)).heap.size:=by have:=Ja.bx.lt;omega
   have OX:=hid (y2)
   have HBS:Hid _:=hbs
   have ST:Hid (∀v5 w5,AppTo (wc.alloc (.cells #[.bool true, .slice (some ⟨b1,off1+i*2,none⟩) M (c1-i), .slice none 0 0, .slice none 0 0, .slice none 0 0] 35)) (w.heap.size+1+1) 35 5 (.slice a1 ts.length q1) (xs.length+1) (flatT xs++flatT [⟨true, .slice (some ⟨b1,off1+i*2,none⟩) M (c1-i), .slice none 0 0, .slice none 0 0, .slice none 0 0⟩]) v5 w5->∃(a4:Option Addr) (q4:Nat),v5= .slice a4 (ts.length+1) q4/\BoxR w5 (w.heap.size+1) #[.slice a1 ts.length q1, .slice a3 cs'.length q3]/\FkJ 1 31 1 (fun g=>(F g/\g<w.heap.size)∨w.heap.size+1+1<=g) w (w5.setCell ⟨w.heap.size+1,0,none⟩ (.slice a4 (ts.length+1) q4)) (.slice a4 (ts.length+1) q4) (.slice a3 cs'.length q3) (ts++[PT]) cs' (.slice (some ⟨gp,0,none⟩) L qp) PL/\BoxR (w5.setCell ⟨w.heap.size+1,0,none⟩ (.slice a4 (ts.length+1) q4)) w.heap.size #[.slice none 0 0, .slice none 0 0]):=fun v5 w5 A5=>by
    obtain⟨bx5,J5⟩:=Ja.stepT (by decide) RL.out (ys:=[⟨true, .slice (some ⟨b1,off1+i*2,none⟩) M (c1-i), .slice none 0 0, .slice none 0 0, .slice none 0 0⟩]) (m:=1) rfl (us:=[PT]) rfl (fun j hj=>by
     have e:j=0:=by simp at hj;omega
     subst e
     exact(NW2.out _ Ja.bw).mono fun g hg=>⟨.inl hg,fun h=>by have:=hlo g h;omega,fun h=>by have:=hlc g h;omega⟩) y1 y5 y2 A5
    obtain⟨a4,q4,_,_,hv5,_⟩:=J5.om.shape
    rw[List.length_append] at hv5
    subst hv5
    exact⟨a4,q4,rfl,bx5,J5,((J2.out.2.step (al1 _ _)).chg A5.2.1 (fun h=>by have:=hlo _ h;omega)).chg (chg_set1 w5 (w.heap.size+1) 0 _) (by omega)⟩
   obtain⟨g0,g1⟩:=J2.out.1.bx.two
   clear J J2 ET TA1 CA1 EC MM PC CK TA CA y1 y2 y3 y4 y5 hlo hlc Ja hbs
   go_wp2_with (at_builtin;refine list_appE (wc.alloc (.cells #[.bool true, .slice (some ⟨b1,off1+i*2,none⟩) M (c1-i), .slice none 0 0, .slice none 0 0, .slice none 0 0] 35)) rfl _ _ 32 rfl (w.heap.size+1+1) 35 i0 _ 5 104 Tryz.underlying32 hi0 hz0 hz1 hz2 rfl (by decide) (.slice a1 ts.length q1) xs.length (flatT xs) rfl OX.out (.slice (some ⟨wc.heap.size,0,none⟩) 1 1) 1 (flatT [⟨true, .slice (some ⟨b1,off1+i*2,none⟩) M (c1-i), .slice none 0 0, .slice none 0 0, .slice none 0 0⟩]) rfl (Row.laid wc [.bool true, .slice (some ⟨b1,off1+i*2,none⟩) M (c1-i), .slice none 0 0, .slice none 0 0, .slice none 0 0] 35 _ rfl) rfl tv_one HR1.out.1 HR1.out.2 HBS.out ?_)
   intro v5 w5 A5
   obtain⟨a4,q4,hv5,bx5,JF⟩:=ST.out v5 w5 A5
   subst hv5
   obtain⟨m0,m1⟩:=bx5.two
   obtain⟨f0,f1⟩:=bx5.free
   have FIN:Hid _:=JF
   have htl2:(ts++[PT]).length=ts.length+1:=by simp
   clear A5 bx5 JF g0 g1 ST OX HBS HR1
   go_wp2
   go_roundw
   case rel=>exact⟨i+M,k+1,ts++[PT],cs',a4,a3,q4,q3,by go_num,hM',hMM,by omega,by omega,by omega,by omega,by omega,DP2,ET2,EC2,(by rw[htl2];exact FIN)⟩
   case measure=>simp[intOf];omega
  ·have hkk:k=L:=by
    have:=PE.out i k DP.out hlt
    omega
   have E1:Hid (ts=T0):=by
    have:=ET.out
    rw[TE.out i hlt,List.append_nil] at this
    exact this
   have E2:Hid (cs=C0):=by
    have:=EC.out
    rw[CE.out i hlt,List.append_nil] at this
    exact this
   have hnk:¬((k:Int)<(L:Int)):=by omega
   obtain⟨r0,r1⟩:=J.out.1.bx.two
   obtain⟨z0,z1⟩:=J.out.2.two
   obtain⟨y0,y1⟩:=J.out.2.free
   have FIN:Hid (∀x y,TreesF 1 (setR wr w.heap.size x y) (fun b=>F b∨w.heap.size<=b) (.slice a1 ts.length q1) ts/\RowF (setR wr w.heap.size x y) (fun b=>F b∨w.heap.size<=b) (.slice a2 cs.length q2) cs.length (flatI cs)/\Below w.heap.size w (setR wr w.heap.size x y)/\BoxR (setR wr w.heap.size x y) w.heap.size #[x,y]):=fun x y=>by
    have o1:=J.out.1.om.chg (chg_setR wr w.heap.size x y) (fun g hg=>⟨fun k=>by omega,by omega⟩)
    obtain⟨t1,t2⟩:=o1.trees (fun g hg=> .inr hg)
    refine⟨t1.mono (fun g hg=> ?_),t2.mono (fun g hg=> ?_),(J.out.1.bw.setCell (p:=⟨w.heap.size,0,none⟩) (Nat.le_refl _) x).setCell (p:=⟨w.heap.size,1,none⟩) (Nat.le_refl _) y,J.out.2.set2 x y⟩
    ·rcases hg with hg|hg
     ·exact .inl hg.1
     ·exact .inr (by omega)
    ·rcases hg with hg|hg
     ·exact .inl hg.1
     ·exact .inr (by omega)
   clear J ET EC hkk
   go_wp2
   obtain⟨f1,f2,f3,f4⟩:=FIN.out (.slice a1 ts.length q1) (.slice a2 cs.length q2)
   have Z:=f4.two
   have e1:ts=T0:=E1.out
   have e2:cs=C0:=E2.out
   subst e1 e2
   exact bodyPost_ret (v:= .agg #[.slice a1 ts.length q1, .slice a2 cs.length q2]) (by simp[results,Tryz.results114,go_sem,Z.1,Z.2]) rfl ⟨_,_,rfl,f1,f2,f3⟩

theorem leavesOf_one (F:Nat->Prop) (v:Value) (ps:PL) (w:World) (hr:RowF w F v ps.length (flatP ps)) (h4:ps.length<=4) :
  Calls Tryz.prog 114 #[v] w fun e w' =>∃v1,e= .returned (.agg #[v1, .slice none 0 0])/\TreesF 1 w' (fun b=>F b∨w.heap.size<=b) v1 [leafT ps]/\Below w.heap.size w w' :=by
 have hT:TreeF 1 w F ⟨true,v, .slice none 0 0, .slice none 0 0, .slice none 0 0⟩ (leafT ps):=TreeF.mk rfl hr (RowF.nil _ _) (RowF.nil _ _) (TreesF.nil _ _ _)
 obtain⟨a1,q1,hvt,_⟩:=hr.row.len
 subst hvt
 have HR:Hid (∀w1,Below w.heap.size w w1->Calls Tryz.prog 118 #[.agg #[.bool true, .slice a1 ps.length q1, .slice none 0 0, .slice none 0 0, .slice none 0 0]] w1 fun e w' =>∃vt,e= .returned (.agg #[vt, .slice none 0 0])/\TreesF 1 w' (fun g=>(F g/\g<w.heap.size)∨w1.heap.size<=g) vt [leafT ps]/\Below w1.heap.size w1 w'):=fun w1 hb=>
  rowOf_any 1 (fun g=>F g/\g<w.heap.size) ⟨true, .slice a1 ps.length q1, .slice none 0 0, .slice none 0 0, .slice none 0 0⟩ (leafT ps) w1 (hT.lt.below hb)
 clear hr hT
 generalize ps.length=n1 at *
 have hle:(n1:Int)<=4:=by omega
 go_enter Tryz.func114,Tryz.ntmps114
 go_wp2_with fail
 refine Calls.mono (HR.out _ (al1 _ _)) ?_
 rintro e w1 ⟨v1,rfl,t1,b1⟩
 obtain⟨xs,ex,rx⟩:=t1.els
 obtain⟨a5,q5,hv1,_⟩:=rx.row.len
 subst hv1
 have X1:BoxR w1 w.heap.size #[.slice none 0 0, .slice none 0 0]:=(BoxR.start w #[.slice none 0 0, .slice none 0 0]).step b1
 have BW:Below w.heap.size w w1:=Below.and (al1 _ _) b1
 obtain⟨g0,g1⟩:=X1.two
 obtain⟨f0,f1⟩:=X1.free
 have hs2:w.heap.size+1<=(w.alloc (.cells #[.slice none 0 0, .slice none 0 0] 96)).heap.size:=by simp
 have FIN:Hid (TreesF 1 (setR w1 w.heap.size (.slice a5 1 q5) (.slice none 0 0)) (fun b=>F b∨w.heap.size<=b) (.slice a5 1 q5) [leafT ps]/\Below w.heap.size w (setR w1 w.heap.size (.slice a5 1 q5) (.slice none 0 0))/\BoxR (setR w1 w.heap.size (.slice a5 1 q5) (.slice none 0 0)) w.heap.size #[.slice a5 1 q5, .slice none 0 0]):=
  ⟨(t1.chg (chg_setR w1 w.heap.size _ _) (fun g hg e=>by rcases hg with⟨_,h⟩|h<;>omega)).mono (fun g hg=>hg.imp And.left (fun h=>by omega)),(BW.setCell (p:=⟨w.heap.size,0,none⟩) (Nat.le_refl _) _).setCell (p:=⟨w.heap.size,1,none⟩) (Nat.le_refl _) _,X1.set2 _ _⟩
 clear t1 b1 X1 BW rx ex hs2
 go_wp2
 have Z:=FIN.out.2.2.two
 exact bodyPost_ret (v:= .agg #[.slice a5 1 q5, .slice none 0 0]) (by simp[results,Tryz.results114,go_sem,Z.1,Z.2]) rfl ⟨_,rfl,FIN.out.1,FIN.out.2.1⟩

theorem leavesOf_any (F:Nat->Prop) (v:Value) (ps:PL) (w:World) (hr:RowF w F v ps.length (flatP ps)) (hn:ps.length<=1048576) :
  Calls Tryz.prog 114 #[v] w fun e w' =>∃v1 v2,e= .returned (.agg #[v1,v2])/\TreesF 1 w' (fun b=>F b∨w.heap.size<=b) v1 (leafM ps).1/\RowF w' (fun b=>F b∨w.heap.size<=b) v2 (leafM ps).2.length (flatI (leafM ps).2)/\Below w.heap.size w w' :=by
 unfold leafM
 by_cases h:ps.length<=4
 ·rw[if_pos h]
  refine(leavesOf_one F v ps w hr h).mono ?_
  rintro e w' ⟨v1,rfl,t,b⟩
  exact⟨v1,_,rfl,t,RowF.nil _ _,b⟩
 ·rw[if_neg h]
  exact leavesOf_many F v ps w hr (by omega) hn
end
section
open Go.RowKit

theorem l4Most_any (a1:Option Addr) (n1 q1:Nat) (vc vb:Value) (cs:List Int) (buf:ML) (w:World) (hc:Row w vc cs.length (flatI cs)) (hb:Row w vb buf.length (flatM buf)) (hn:buf.length<=2097152) (h1:n1<=2097152) :
  Calls Tryz.prog 102 #[.agg #[.slice a1 n1 q1,vc],vb] w fun e w' =>e= .returned (.int .i64 ((mostTo cs buf n1).1:Nat))/\Below w.heap.size w w' :=by
 have HC:Hid (∀(i:Nat) (w1:World),Below w.heap.size w w1->Calls Tryz.prog 103 #[.agg #[.slice a1 n1 q1,vc],vb, .int .i64 (i:Nat)] w1 fun e w' =>∃v1 v2,e= .returned (.tuple #[v1,v2])/\w'.ownsRow w1.heap.size 38 3 v1 (mineF cs i buf).length (flatM (mineF cs i buf))/\w'.ownsRow w1.heap.size 38 3 v2 (restF cs i buf).length (flatM (restF cs i buf))/\Below w1.heap.size w1 w'):=
  fun i w1 h=>l4Split_any a1 n1 q1 vc vb cs buf i w1 (hc.below h) (hb.below h) hn
 obtain⟨a2,q2,rfl,hmax2⟩:=hc.len
 obtain⟨a4,q4,rfl,hmax4⟩:=hb.len
 clear hc hb hmax2 hmax4
 have LO:Hid (∀k, -1<=(mostTo cs buf k).2/\(mostTo cs buf k).2<=buf.length/\(mostTo cs buf k).1<=k):=fun k=>mostTo_lo cs buf k
 have ST:Hid (∀k,mostTo cs buf (k+1)=if (mostTo cs buf k).2<((mineF cs k buf).length:Int) then (k,((mineF cs k buf).length:Int)) else mostTo cs buf k):=fun k=>rfl
 have Z0:Hid (mostTo cs buf 0=(0, -1)):=rfl
 have ML1:Hid (∀k,(mineF cs k buf).length<=2097152):=fun k=>Nat.le_trans (mineF_length _ _ _) hn
 have B0:Hid _:=bel_boxM w #[.slice a1 n1 q1, .slice a2 cs.length q2]
 have S0:Hid (BoxM _ w.heap.size _):=BoxM.start w #[.slice a1 n1 q1, .slice a2 cs.length q2]
 generalize mostTo cs buf=mo at *
 go_enter Tryz.func102,Tryz.ntmps102
 go_wp2
 go_loopw [5,6,7] (fun b m i wr=>∃j:Nat,j<=n1/\i= .int .i64 j/\b= .int .i64 ((mo j).1:Nat)/\m= .int .i64 (mo j).2/\Hid (BoxM wr w.heap.size #[.slice a1 n1 q1, .slice a2 cs.length q2])/\Hid (Below w.heap.size w wr))
  (fun _ _ i _=>n1-(intOf i).toNat)
 case atStart=>exact⟨0,Nat.zero_le _,rfl,by rw[Z0.out];rfl,by rw[Z0.out],S0,B0⟩
 case round=>
  obtain⟨j,hj,rfl,rfl,rfl,SN,BN⟩:=hrel
  clear S0 B0
  obtain⟨c0,c1⟩:=SN.out.two
  by_cases hlt:j<n1
  ·have HC1:Hid _:=HC.out j wr BN.out
   have ST1:Hid _:=ST.out j
   have LO1:=LO.out j
   have LM:=ML1.out j
   generalize mineF cs j buf=MM at *
   generalize restF cs j buf=RR at *
   clear HC ST ML1
   go_wp2_with fail
   refine Calls.mono HC1.out ?_
   rintro e w2 ⟨v1,v2,rfl,o1,o2,hb2⟩
   have B2:Hid (Below w.heap.size w w2):=Below.and BN.out hb2
   have S2:Hid (BoxM w2 w.heap.size #[.slice a1 n1 q1, .slice a2 cs.length q2]):=SN.out.step hb2 SN.out.lt
   obtain⟨a5,q5,rfl,_⟩:=(Row.of_owns o1).len
   obtain⟨a6,q6,rfl,_⟩:=(Row.of_owns o2).len
   clear o1 o2 hb2 SN BN HC1 c0 c1
   generalize hl:MM.length=L at *
   by_cases hq:(mo j).2<(L:Int)
   ·have E:Hid (mo (j+1)=(j,(L:Int))):=ST1.out.trans (if_pos hq)
    clear ST1
    go_wp2
    go_roundw
    case rel=>exact⟨j+1,by omega,by go_num,by rw[E.out],by rw[E.out],S2,B2⟩
    case measure=>simp[intOf];omega
   ·have E:Hid (mo (j+1)=mo j):=ST1.out.trans (if_neg hq)
    clear ST1
    go_wp2
    go_roundw
    case rel=>exact⟨j+1,by omega,by go_num,by rw[E.out],by rw[E.out],S2,B2⟩
    case measure=>simp[intOf];omega
  ·have hjj:j=n1:=by omega
   subst hjj
   go_wp2
   go_ret
   exact⟨rfl,BN.out⟩
end
end Go.Proofs.YtcmofojechfccaaGreat
