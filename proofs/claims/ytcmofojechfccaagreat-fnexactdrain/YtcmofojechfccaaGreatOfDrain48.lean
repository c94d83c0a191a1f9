/-
  The contract of the model's Drain.
  A call in a region by the callee's contract, without a walk.
  The program's Drain.
-/
import Derived.Test.YtcmofojechfccaaGreatOfDrain42
import Derived.Test.YtcmofojechfccaaGreatOfDrain1
import Derived.WalkKit
import Derived.Test.YtcmofojechfccaaGreatOfDrain47
import Derived.Deep.RegionHeld3
namespace Go.Proofs.YtcmofojechfccaaGreat
set_option maxRecDepth 100000
set_option maxHeartbeats 8000000
section
open Go.RowKit

theorem specDrain_any (n:Nat) (x:TV) (T:Tr) (w:World) (ht:TreeAt n w x T) (hsz:sizeT n T<=1099511627776) :
  Calls Tryz.prog 16 #[x.val] w fun e w' =>∃(y:TV) (N:Nat),e= .returned y.val/\TreeD N w' (fun g=>w.heap.size<=g) y (drnF T)/\Below w.heap.size w w' :=by
 obtain⟨a1,a2,a3,a4,q1,q2,q3,q4,hx⟩:=ht.shape
 subst hx
 have HO:Hid (∀w1,Below w.heap.size w w1->Calls Tryz.prog 42 #[.agg #[.bool T.leaf, .slice a1 T.pairs.length q1, .slice a2 T.cuts.length q2, .slice a3 T.kids.length q3, .slice a4 T.buf.length q4]] w1 fun e w' =>e= .returned (.bool (okT T))/\Below w1.heap.size w1 w'):=fun w1 hb=>specTreeOk_any n ⟨T.leaf, .slice a1 T.pairs.length q1, .slice a2 T.cuts.length q2, .slice a3 T.kids.length q3, .slice a4 T.buf.length q4⟩ T w1 (ht.below hb) hsz
 have HC:Hid (∀w1,Below w.heap.size w w1->Calls Tryz.prog 44 #[.agg #[.bool T.leaf, .slice a1 T.pairs.length q1, .slice a2 T.cuts.length q2, .slice a3 T.kids.length q3, .slice a4 T.buf.length q4]] w1 fun e w' =>∃y:TV,e= .returned y.val/\TreeD n w' (fun g=>w1.heap.size<=g) y T/\Below w1.heap.size w1 w'):=fun w1 hb=>copy_all n ⟨T.leaf, .slice a1 T.pairs.length q1, .slice a2 T.cuts.length q2, .slice a3 T.kids.length q3, .slice a4 T.buf.length q4⟩ T w1 (ht.below hb) hsz
 show Calls Tryz.prog 16 #[.agg #[.bool T.leaf, .slice a1 T.pairs.length q1, .slice a2 T.cuts.length q2, .slice a3 T.kids.length q3, .slice a4 T.buf.length q4]] w _
 clear ht
 generalize T.leaf=lf at *
 generalize T.pairs.length=n1 at *
 generalize T.cuts.length=n2 at *
 generalize T.kids.length=n3 at *
 generalize T.buf.length=n4 at *
 have B0:Hid (Below w.heap.size w ((w.alloc (.cells #[.bool lf, .slice a1 n1 q1, .slice a2 n2 q2, .slice a3 n3 q3, .slice a4 n4 q4] 35)).alloc (.cells #[.bool false, .slice none 0 0, .slice none 0 0, .slice none 0 0, .slice none 0 0] 35))):=al2 _ _ _
 have S0:Hid (OneAt ((w.alloc (.cells #[.bool lf, .slice a1 n1 q1, .slice a2 n2 q2, .slice a3 n3 q3, .slice a4 n4 q4] 35)).alloc (.cells #[.bool false, .slice none 0 0, .slice none 0 0, .slice none 0 0, .slice none 0 0] 35)) w.heap.size #[.bool lf, .slice a1 n1 q1, .slice a2 n2 q2, .slice a3 n3 q3, .slice a4 n4 q4]):=(OneAt.start w _).step (al1 _ _)
 have X0:Hid (OneAt ((w.alloc (.cells #[.bool lf, .slice a1 n1 q1, .slice a2 n2 q2, .slice a3 n3 q3, .slice a4 n4 q4] 35)).alloc (.cells #[.bool false, .slice none 0 0, .slice none 0 0, .slice none 0 0, .slice none 0 0] 35)) (w.heap.size+1) #[.bool false, .slice none 0 0, .slice none 0 0, .slice none 0 0, .slice none 0 0]):=by
  have:=OneAt.start (w.alloc (.cells #[.bool lf, .slice a1 n1 q1, .slice a2 n2 q2, .slice a3 n3 q3, .slice a4 n4 q4] 35)) #[.bool false, .slice none 0 0, .slice none 0 0, .slice none 0 0, .slice none 0 0]
  rw[World.size_alloc] at this
  exact this
 have Z0:Hid (w.heap.size+2<=((w.alloc (.cells #[.bool lf, .slice a1 n1 q1, .slice a2 n2 q2, .slice a3 n3 q3, .slice a4 n4 q4] 35)).alloc (.cells #[.bool false, .slice none 0 0, .slice none 0 0, .slice none 0 0, .slice none 0 0] 35)).heap.size):=by show _<=_;simp
 obtain⟨c0,c1,c2,c3,c4⟩:=box_cells5 S0.out
 have HO1:Hid _:=HO.out _ B0.out
 go_enter Tryz.func16,Tryz.ntmps16
 go_wp2_with fail
 refine Calls.mono HO1.out ?_
 rintro e w1 ⟨rfl,hb1⟩
 have B1:Hid (Below w.heap.size w w1):=Below.and B0.out hb1
 have S1:Hid (OneAt w1 w.heap.size #[.bool lf, .slice a1 n1 q1, .slice a2 n2 q2, .slice a3 n3 q3, .slice a4 n4 q4]):=S0.out.step hb1
 have X1:Hid (OneAt w1 (w.heap.size+1) #[.bool false, .slice none 0 0, .slice none 0 0, .slice none 0 0, .slice none 0 0]):=X0.out.step hb1
 have Z1:Hid (w.heap.size+2<=w1.heap.size):=Nat.le_trans Z0.out hb1.size
 clear c0 c1 c2 c3 c4 HO1 B0 S0 X0 Z0 hb1 HO
 obtain⟨c0,c1,c2,c3,c4⟩:=box_cells5 S1.out
 have HC1:Hid _:=HC.out w1 B1.out
 cases hok:okT T with
 |false=>
  have ED:drnF T=T:=by rw[drnF,if_neg (by rw[hok];decide)]
  clear HC
  go_wp2_with fail
  refine Calls.mono HC1.out ?_
  rintro e w2 ⟨y,rfl,TY,hb2⟩
  obtain⟨ya1,ya2,ya3,ya4,yq1,yq2,yq3,yq4,hyy⟩:=(TY.treeF.treeAt).shape
  subst hyy
  have TZ:Hid (TreeD n w2 (fun g=>w1.heap.size<=g) _ T):=TY
  have BZ:Hid (Below w.heap.size w w2):=Below.and B1.out hb2
  have X2:Hid (OneAt w2 (w.heap.size+1) #[.bool false, .slice none 0 0, .slice none 0 0, .slice none 0 0, .slice none 0 0]):=X1.out.step hb2
  have HZ:Hid (w.heap.size+2<=w1.heap.size):=Z1
  clear TY hb2 HC1 c0 c1 c2 c3 c4 S1 X1
  generalize (T).leaf=yl at *
  generalize (T).pairs.length=yn1 at *
  generalize (T).cuts.length=yn2 at *
  generalize (T).kids.length=yn3 at *
  generalize (T).buf.length=yn4 at *
  obtain⟨⟨m0,m1,m2,m3,m4⟩,k0,k1,k2,k3,k4⟩:=box_all5 X2.out
  have FIN:Hid (∀v0 v1 v2 v3 v4,TreeD (n) (set5 w2 (w.heap.size+1) v0 v1 v2 v3 v4) (fun g=>w.heap.size<=g) (⟨yl, .slice ya1 yn1 yq1, .slice ya2 yn2 yq2, .slice ya3 yn3 yq3, .slice ya4 yn4 yq4⟩:TV) (T)/\Below w.heap.size w (set5 w2 (w.heap.size+1) v0 v1 v2 v3 v4)):=fun v0 v1 v2 v3 v4=>by
   have hc:=chg_set5 w2 (w.heap.size+1) v0 v1 v2 v3 v4
   have hz:=HZ.out
   exact⟨(TZ.out.chg hc (fun g hg k=>by omega)).mono (fun g hg=>by omega),BZ.out.trans (hc.below (fun g _ hg=>by omega) BZ.out.size)⟩
  clear TZ X2
  go_wp2
  refine bodyPost_ret (v:= .agg #[.bool yl, .slice ya1 yn1 yq1, .slice ya2 yn2 yq2, .slice ya3 yn3 yq3, .slice ya4 yn4 yq4]) (by simp[results,Tryz.results16,go_sem,m0,m1,m2,m3,m4]) rfl ⟨⟨yl, .slice ya1 yn1 yq1, .slice ya2 yn2 yq2, .slice ya3 yn3 yq3, .slice ya4 yn4 yq4⟩,n,rfl, ?_,(FIN.out _ _ _ _ _).2⟩
  rw[ED]
  exact(FIN.out _ _ _ _ _).1
 |true=>
  obtain⟨hsh,hd7,hwt⟩:=ok_sh hok
  obtain⟨e,he1,he2,he3⟩:=drain_root hsh
  obtain⟨hmo,hmw⟩:=drainM_ok _ _ hsh
  have MO:Hid (MOk (depthT T) (drainM (depthT T) T)):=hmo
  have ED:Hid (drnF T=if okT (rootOf (drainM (depthT T) T))=true then rootOf (drainM (depthT T) T) else T):=by show _=_;rw[drnF,if_pos hok]
  have SH:Hid (shT (depthT T) T):=hsh
  have WT:Hid (wt (depthT T) T<=1000000/\wtL (depthT T) (drainM (depthT T) T).1<=1000000):=⟨by omega,by omega⟩
  have SZ:Hid (sizeT (depthT T+(drainM (depthT T) T).1.length) (rootOf (drainM (depthT T) T))<=1099511627776):=Nat.le_trans (sh_size he2 he1) (by omega)
  clear hsh hd7 hwt he1 he2 he3 hmo hmw
  go_wp2_with fail
  refine Calls.mono HC1.out ?_
  rintro e' w2 ⟨y,rfl,TY,hb2⟩
  have HD:Hid _:=drain_all (depthT T) (fun g=>w1.heap.size<=g) y T w2 (TreeD.down SH.out TY).treeF SH.out WT.out.1
  obtain⟨ya1,ya2,ya3,ya4,yq1,yq2,yq3,yq4,hyy⟩:=TY.treeF.treeAt.shape
  rw[hyy] at HD ⊢
  have B2:Hid (Below w.heap.size w w2):=Below.and B1.out hb2
  have L2:Hid (Below w1.heap.size w1 w2):=hb2
  clear TY hyy hb2 HC1
  generalize hgm:drainM (depthT T) T=gm at *
  generalize hdd:depthT T=d at *
  go_wp2_with fail
  refine Calls.mono HD.out ?_
  rintro e' w3 ⟨v1,v2,rfl,T3,R3,hb3⟩
  have HR:Hid _:=l4Root_any d _ v1 v2 gm w3 T3 R3 MO.out WT.out.2
  obtain⟨ax,qx,hv1,_⟩:=(show Row w3 v1 gm.1.length _ from(T3.els.choose_spec.2).row).len
  obtain⟨ay,qy,hv2,_⟩:=R3.row.len
  subst hv1
  subst hv2
  have L3:Hid (Below w1.heap.size w1 w3):=Below.and L2.out hb3
  clear T3 R3 hb3 HD
  go_wp2_with fail
  refine Calls.mono HR.out ?_
  rintro e' w4 ⟨r,rfl,T4,hb4⟩
  have T4' :TreeF (d+gm.1.length) w4 _ r (rootOf gm):=T4
  obtain⟨ra1,ra2,ra3,ra4,rq1,rq2,rq3,rq4,hyr⟩:=T4'.treeAt.shape
  subst hyr
  have L4:Hid (Below w1.heap.size w1 w4):=Below.and L3.out hb4
  have A4:Hid (TreeAt (d+gm.1.length) w4 _ (rootOf gm)):=T4'.treeAt
  clear T4 T4' hb4 HR L2 L3 B2
  generalize hRR:rootOf gm=R at *
  generalize (R).leaf=rl at *
  generalize (R).pairs.length=rn1 at *
  generalize (R).cuts.length=rn2 at *
  generalize (R).kids.length=rn3 at *
  generalize (R).buf.length=rn4 at *
  have L5:Hid (Below w1.heap.size w1 (w4.alloc (.cells #[.bool rl, .slice ra1 rn1 rq1, .slice ra2 rn2 rq2, .slice ra3 rn3 rq3, .slice ra4 rn4 rq4] 35))):=Below.and L4.out (al1 _ _)
  have X5:Hid (OneAt (w4.alloc (.cells #[.bool rl, .slice ra1 rn1 rq1, .slice ra2 rn2 rq2, .slice ra3 rn3 rq3, .slice ra4 rn4 rq4] 35)) w4.heap.size #[.bool rl, .slice ra1 rn1 rq1, .slice ra2 rn2 rq2, .slice ra3 rn3 rq3, .slice ra4 rn4 rq4]):=OneAt.start w4 _
  have HO5:Hid _:=specTreeOk_any (d+gm.1.length) (⟨rl, .slice ra1 rn1 rq1, .slice ra2 rn2 rq2, .slice ra3 rn3 rq3, .slice ra4 rn4 rq4⟩) R (w4.alloc (.cells #[.bool rl, .slice ra1 rn1 rq1, .slice ra2 rn2 rq2, .slice ra3 rn3 rq3, .slice ra4 rn4 rq4] 35)) (A4.out.below (al1 _ _)) SZ.out
  obtain⟨d0,d1,d2,d3,d4⟩:=box_cells5 X5.out
  go_wp2_with fail
  refine Calls.mono HO5.out ?_
  rintro e' w6 ⟨rfl,hb6⟩
  have L6:Hid (Below w1.heap.size w1 w6):=Below.and L5.out hb6
  have X6:Hid (OneAt w6 w4.heap.size #[.bool rl, .slice ra1 rn1 rq1, .slice ra2 rn2 rq2, .slice ra3 rn3 rq3, .slice ra4 rn4 rq4]):=X5.out.step hb6
  have A6:Hid (TreeAt (d+gm.1.length) w6 (⟨rl, .slice ra1 rn1 rq1, .slice ra2 rn2 rq2, .slice ra3 rn3 rq3, .slice ra4 rn4 rq4⟩) R):=A4.out.below (Below.and (al1 _ _) hb6)
  have S6:Hid (OneAt w6 w.heap.size #[.bool lf, .slice a1 n1 q1, .slice a2 n2 q2, .slice a3 n3 q3, .slice a4 n4 q4]):=S1.out.step L6.out
  have P6:Hid (OneAt w6 (w.heap.size+1) #[.bool false, .slice none 0 0, .slice none 0 0, .slice none 0 0, .slice none 0 0]):=X1.out.step L6.out
  have B6:Hid (Below w.heap.size w w6):=Below.and B1.out L6.out
  have Z6:Hid (w.heap.size+2<=w6.heap.size):=Nat.le_trans Z1.out L6.out.size
  clear hb6 L5 X5 HO5 d0 d1 d2 d3 d4 c0 c1 c2 c3 c4 A4 L4 L6
  cases hor:okT R with
  |false=>
   have ED2:drnF T=T:=by rw[ED.out,hor];rfl
   have HC6:Hid _:=HC.out w6 B6.out
   obtain⟨c0,c1,c2,c3,c4⟩:=box_cells5 S6.out
   go_wp2_with fail
   refine Calls.mono HC6.out ?_
   rintro e w7 ⟨z,rfl,TY,hb7⟩
   obtain⟨za1,za2,za3,za4,zq1,zq2,zq3,zq4,hyz⟩:=(TY.treeF.treeAt).shape
   subst hyz
   have TZ:Hid (TreeD n w7 (fun g=>w6.heap.size<=g) _ T):=TY
   have BZ:Hid (Below w.heap.size w w7):=Below.and B6.out hb7
   have X7:Hid (OneAt w7 (w.heap.size+1) #[.bool false, .slice none 0 0, .slice none 0 0, .slice none 0 0, .slice none 0 0]):=P6.out.step hb7
   have HZ:Hid (w.heap.size+2<=w6.heap.size):=Z6
   clear TY hb7 HC6 c0 c1 c2 c3 c4
   generalize (T).leaf=zl at *
   generalize (T).pairs.length=zn1 at *
   generalize (T).cuts.length=zn2 at *
   generalize (T).kids.length=zn3 at *
   generalize (T).buf.length=zn4 at *
   obtain⟨⟨m0,m1,m2,m3,m4⟩,k0,k1,k2,k3,k4⟩:=box_all5 X7.out
   have FIN:Hid (∀v0 v1 v2 v3 v4,TreeD (n) (set5 w7 (w.heap.size+1) v0 v1 v2 v3 v4) (fun g=>w.heap.size<=g) (⟨zl, .slice za1 zn1 zq1, .slice za2 zn2 zq2, .slice za3 zn3 zq3, .slice za4 zn4 zq4⟩:TV) (T)/\Below w.heap.size w (set5 w7 (w.heap.size+1) v0 v1 v2 v3 v4)):=fun v0 v1 v2 v3 v4=>by
    have hc:=chg_set5 w7 (w.heap.size+1) v0 v1 v2 v3 v4
    have hz:=HZ.out
    exact⟨(TZ.out.chg hc (fun g hg k=>by omega)).mono (fun g hg=>by omega),BZ.out.trans (hc.below (fun g _ hg=>by omega) BZ.out.size)⟩
   clear TZ X7
   go_wp2
   refine bodyPost_ret (v:= .agg #[.bool zl, .slice za1 zn1 zq1, .slice za2 zn2 zq2, .slice za3 zn3 zq3, .slice za4 zn4 zq4]) (by simp[results,Tryz.results16,go_sem,m0,m1,m2,m3,m4]) rfl ⟨⟨zl, .slice za1 zn1 zq1, .slice za2 zn2 zq2, .slice za3 zn3 zq3, .slice za4 zn4 zq4⟩,n,rfl, ?_,(FIN.out _ _ _ _ _).2⟩
   rw[ED2]
   exact(FIN.out _ _ _ _ _).1
  |true=>
   have ED2:drnF T=R:=by rw[ED.out,hor];rfl
   have HC6:Hid _:=copy_all (d+gm.1.length) (⟨rl, .slice ra1 rn1 rq1, .slice ra2 rn2 rq2, .slice ra3 rn3 rq3, .slice ra4 rn4 rq4⟩) R w6 A6.out SZ.out
   obtain⟨c0,c1,c2,c3,c4⟩:=box_cells5 X6.out
   go_wp2_with fail
   refine Calls.mono HC6.out ?_
   rintro e w7 ⟨z,rfl,TY,hb7⟩
   obtain⟨za1,za2,za3,za4,zq1,zq2,zq3,zq4,hyz⟩:=(TY.treeF.treeAt).shape
   subst hyz
   have TZ:Hid (TreeD (d+gm.1.length) w7 (fun g=>w6.heap.size<=g) _ R):=TY
   have BZ:Hid (Below w.heap.size w w7):=Below.and B6.out hb7
   have X7:Hid (OneAt w7 (w.heap.size+1) #[.bool false, .slice none 0 0, .slice none 0 0, .slice none 0 0, .slice none 0 0]):=P6.out.step hb7
   have HZ:Hid (w.heap.size+2<=w6.heap.size):=Z6
   clear TY hb7 HC6 c0 c1 c2 c3 c4
   generalize (R).leaf=zl at *
   generalize (R).pairs.length=zn1 at *
   generalize (R).cuts.length=zn2 at *
   generalize (R).kids.length=zn3 at *
   generalize (R).buf.length=zn4 at *
   obtain⟨⟨m0,m1,m2,m3,m4⟩,k0,k1,k2,k3,k4⟩:=box_all5 X7.out
   have FIN:Hid (∀v0 v1 v2 v3 v4,TreeD (d+gm.1.length) (set5 w7 (w.heap.size+1) v0 v1 v2 v3 v4) (fun g=>w.heap.size<=g) (⟨zl, .slice za1 zn1 zq1, .slice za2 zn2 zq2, .slice za3 zn3 zq3, .slice za4 zn4 zq4⟩:TV) (R)/\Below w.heap.size w (set5 w7 (w.heap.size+1) v0 v1 v2 v3 v4)):=fun v0 v1 v2 v3 v4=>by
    have hc:=chg_set5 w7 (w.heap.size+1) v0 v1 v2 v3 v4
    have hz:=HZ.out
    exact⟨(TZ.out.chg hc (fun g hg k=>by omega)).mono (fun g hg=>by omega),BZ.out.trans (hc.below (fun g _ hg=>by omega) BZ.out.size)⟩
   clear TZ X7
   go_wp2
   refine bodyPost_ret (v:= .agg #[.bool zl, .slice za1 zn1 zq1, .slice za2 zn2 zq2, .slice za3 zn3 zq3, .slice za4 zn4 zq4]) (by simp[results,Tryz.results16,go_sem,m0,m1,m2,m3,m4]) rfl ⟨⟨zl, .slice za1 zn1 zq1, .slice za2 zn2 zq2, .slice za3 zn3 zq3, .slice za4 zn4 zq4⟩,d+gm.1.length,rfl, ?_,(FIN.out _ _ _ _ _).2⟩
   rw[ED2]
   exact(FIN.out _ _ _ _ _).1
end
section
open Go.RowKit

theorem call_by {P:Program} {o:Oper} {a:Act} {K:Act->World->Prop} {Q:Exit->Act->World->Prop} {w:World} {R:Ending->World->Prop} (f:FuncId) (xs:List Operand) (ats:Array TypeId)
  (ho:o.op= .call { callee:= .value (.func f),args:=xs.toArray,argTypes:=ats }) (hrun:∀args w,(callFunc f args).run P w= .ok (.enter f args) w) (args:List Value) (he:xs.map a.eval=args)
  (h:Calls P f args.toArray w R) (hk:∀e w',R e w' ->∃v,e= .returned v/\K (a.put o.dst v) w'):o.wp P a w K Q:=by
 have ef:a.eval (.func f)= .func (.func f) #[] #[]:=rfl
 have hx:execOp a.eval o=callFunc f args.toArray:=by
  unfold execOp
  simp[ho,resolve,Deferred.ofValue,invoke,ef,he]
 unfold Oper.wp
 rw[hx,hrun,Oper.upon_enter]
 refine Calls.mono h ?_
 intro e w' hr
 obtain⟨v,rfl,hk⟩:=hk e w' hr
 exact hk
end
section
open Go.RowKit

theorem depthF_self:∀(m:Nat) (T:Tr) (lo up:Int),depthF m T lo up≠0->depthF (depthF m T lo up) T lo up=depthF m T lo up
 |0,_,_,_,h=>absurd rfl h
 |m+1,T,lo,up,h=>by
  cases hl:T.leaf
  ·have hk:=depthF_fork_ok h hl
   have hp:=forkOk_parts hk.1
   have e:=depthF_fork (m:=m) hl hk.1
   have same:∀i,i<T.kids.length->kidF m T lo up i=kidF m T lo up 0:=fun i hi=>by
    rcases Nat.decEq (kidF m T lo up i) (kidF m T lo up 0) with hne|he
    ·exact absurd (e.trans (kidsD_ne hi hne)) h
    ·exact he
   have he:=kidsD_yes (d:=kidF m T lo up) (n:=T.kids.length) (hk.2 0 (by omega)) same
   rw[e,he,depthF_fork hl hk.1]
   have ih:∀i,i<T.kids.length->kidF (kidF m T lo up 0) T lo up i=kidF m T lo up 0:=fun i hi=>by
    have:=depthF_self m (kidT T i) (fromT T lo i) (toT T up i) (hk.2 i hi)
    have s:=same i hi
    unfold kidF at s ⊢
    rw[s] at this
    exact this
   rw[kidsD_yes (d:=kidF (kidF m T lo up 0) T lo up) (n:=T.kids.length) (by rw[ih 0 (by omega)];exact hk.2 0 (by omega)) (fun i hi=>by rw[ih i hi,ih 0 (by omega)]),ih 0 (by omega)]
  ·have hp:=depthF_leaf_ok h hl
   rw[depthF_leaf hl,if_pos hp,depthF_leaf hl,if_pos hp]
theorem ok_depth {T:Tr} (h:okT T=true):depthF (depthT T) T 0 1000=depthT T:=by
 refine depthF_self 7 T 0 1000 (fun e=> ?_)
 unfold okT at h
 have:=of_decide_eq_true h
 unfold depthT at this
 omega
theorem run_drained (args:Array Value) (w:World):(callFunc 67 args).run Tryz.prog w= .ok (.enter 67 args) w:=by go_simp
theorem run_rootOver (args:Array Value) (w:World):(callFunc 54 args).run Tryz.prog w= .ok (.enter 54 args) w:=by go_simp
theorem run_copyOfEither (args:Array Value) (w:World):(callFunc 53 args).run Tryz.prog w= .ok (.enter 53 args) w:=by go_simp

theorem implDrain_any (n:Nat) (hn:7<=n) (x:TV) (T:Tr) (F:Nat->Prop) (w:World) (h:TreeD n w F x T) (hs:sizeT n T<=1048576) :
  Calls Tryz.prog 17 #[x.val] w fun e w' =>∃y:TV,e= .returned y.val/\TreeD n w' (fun g=>w.heap.size<=g) y (drnF T)/\Below w.heap.size w w' :=by
 obtain⟨dl,dP,dQ,dR,dS⟩:=x
 obtain⟨d1,d2,d3,d4,d5,d6,d7,d8,d9,da,db,dc,hxd⟩:=h.treeF.slices
 simp only[TV.mk.injEq,true_and] at hxd
 obtain⟨hxd1,hxd2,hxd3,hxd4⟩:=hxd
 subst hxd1 hxd2 hxd3 hxd4
 have OK:=hid (fun u (hu:Below w.heap.size w u)=>implTreeOk_any n (TV.mk dl (.slice d1 d5 d9) (.slice d2 d6 da) (.slice d3 d7 db) (.slice d4 d8 dc)) T u (h.treeF.treeAt.below hu))
 have C2:=hid (fun u (hu:Below w.heap.size w u)=>copyOfTree_any true n (TV.mk dl (.slice d1 d5 d9) (.slice d2 d6 da) (.slice d3 d7 db) (.slice d4 d8 dc)) T F u ⟨fun _=>h.below hu,(h.below hu).treeF⟩ hs (fun e=>by cases e))
 have BW:Hid (Below w.heap.size w ((w.alloc (.cells #[.bool dl, .slice d1 d5 d9, .slice d2 d6 da, .slice d3 d7 db, .slice d4 d8 dc] 35)).alloc (.cells #[.bool false, .slice none 0 0, .slice none 0 0, .slice none 0 0, .slice none 0 0] 35))/\BoxT ((w.alloc (.cells #[.bool dl, .slice d1 d5 d9, .slice d2 d6 da, .slice d3 d7 db, .slice d4 d8 dc] 35)).alloc (.cells #[.bool false, .slice none 0 0, .slice none 0 0, .slice none 0 0, .slice none 0 0] 35)) (w.heap.size) #[.bool dl, .slice d1 d5 d9, .slice d2 d6 da, .slice d3 d7 db, .slice d4 d8 dc]/\BoxT ((w.alloc (.cells #[.bool dl, .slice d1 d5 d9, .slice d2 d6 da, .slice d3 d7 db, .slice d4 d8 dc] 35)).alloc (.cells #[.bool false, .slice none 0 0, .slice none 0 0, .slice none 0 0, .slice none 0 0] 35)) (w.heap.size+1) #[.bool false, .slice none 0 0, .slice none 0 0, .slice none 0 0, .slice none 0 0]):=by
  have e:∀(x:World) (o:Obj),(x.alloc o).heap.size=x.heap.size+1:=fun x o=>by simp
  refine⟨Below.and (al1 _ _) (al1 _ _),(BoxT.start w _).step (al1 _ _), ?_⟩
  have:=BoxT.start (w.alloc (.cells #[.bool dl, .slice d1 d5 d9, .slice d2 d6 da, .slice d3 d7 db, .slice d4 d8 dc] 35)) #[.bool false, .slice none 0 0, .slice none 0 0, .slice none 0 0, .slice none 0 0]
  rw[e] at this
  exact this
 have HH:Hid _:=h
 clear h
 show Calls Tryz.prog 17 #[.agg #[.bool dl, .slice d1 d5 d9, .slice d2 d6 da, .slice d3 d7 db, .slice d4 d8 dc]] w _
 have c1:=BW.out.2.1.cells
 by_cases hok:okT T=true
 ·rw[hok] at OK
  have h7:=ok_sh hok
  have DR:=hid (fun u (hu:Below w.heap.size w u)=>drained_allI (depthT T) F (TV.mk dl (.slice d1 d5 d9) (.slice d2 d6 da) (.slice d3 d7 db) (.slice d4 d8 dc)) T 0 1000 u (TreeF.down h7.1 (HH.out.below hu).treeF) (ok_depth hok) (by omega))
  have hmo:=drainM_ok (depthT T) T h7.1
  have hln:=wtL_length hmo.1.2
  have RT:Hid (∀(u:World) (F' :Nat->Prop) (v1 v2:Value),TreesF (depthT T) u F' v1 (drainM (depthT T) T).1->RowF u F' v2 (drainM (depthT T) T).2.length (flatI (drainM (depthT T) T).2)->Calls Tryz.prog 54 #[.agg #[v1,v2]] u fun e w' =>∃x:TV,e= .returned x.val/\TreeF ((depthT T)+(drainM (depthT T) T).1.length) w' (fun b=>F' b∨u.heap.size<=b) x (rootOf (drainM (depthT T) T))/\Below u.heap.size u w'):=fun u F' v1 v2 h1 h2=>rootOver_any (depthT T) F' v1 v2 (drainM (depthT T) T) u h1 h2 hmo.1 (by omega)
  have CE:Hid (∀(u:World) (x1:TV) (F1:Nat->Prop),Below w.heap.size w u->TreeF ((depthT T)+(drainM (depthT T) T).1.length) u F1 x1 (rootOf (drainM (depthT T) T))->Calls Tryz.prog 53 #[x1.val, .agg #[.bool dl, .slice d1 d5 d9, .slice d2 d6 da, .slice d3 d7 db, .slice d4 d8 dc]] u fun e w' =>∃y:TV,e= .returned y.val/\TreeD n w' (fun g=>u.heap.size<=g) y (drnF T)/\Below u.heap.size u w'):=fun u x1 F1 hu h1=>by
   have:=copyOfEither_any _ n hn x1 (TV.mk dl (.slice d1 d5 d9) (.slice d2 d6 da) (.slice d3 d7 db) (.slice d4 d8 dc)) (rootOf (drainM (depthT T) T)) T F1 F u h1 (HH.out.below hu) hs
   rw[drnF,if_pos hok]
   exact this
  clear h7 hmo hln HH C2
  generalize drnF T=T2 at *
  generalize (depthT T)+(drainM (depthT T) T).1.length=N1 at *
  generalize rootOf (drainM (depthT T) T)=T1 at *
  generalize (drainM (depthT T) T)=MM at *
  generalize (depthT T)=D at *
  go_enter Tryz.func17,Tryz.ntmps17
  go_wp2_with fail
  generalize ((w.alloc (.cells #[.bool dl, .slice d1 d5 d9, .slice d2 d6 da, .slice d3 d7 db, .slice d4 d8 dc] 35)).alloc (.cells #[.bool false, .slice none 0 0, .slice none 0 0, .slice none 0 0, .slice none 0 0] 35))=W0 at *
  refine(OK.out _ BW.out.1).mono ?_
  rintro e w1 ⟨rfl,b1⟩
  obtain⟨p0,p1,p2⟩:=BW.out
  have BX:Hid (Below w.heap.size w w1.drew/\BoxT w1.drew (w.heap.size) #[.bool dl, .slice d1 d5 d9, .slice d2 d6 da, .slice d3 d7 db, .slice d4 d8 dc]/\BoxT w1.drew (w.heap.size+1) #[.bool false, .slice none 0 0, .slice none 0 0, .slice none 0 0, .slice none 0 0]):=⟨(Below.and p0 b1).drew,p1.step b1.drew,p2.step b1.drew⟩
  clear p0 p1 p2 b1 BW c1
  go_wp2_with fail
  refine wp_region_held_drew (S:=fun u=>∀j,u.cell? ⟨w.heap.size,j,none⟩= #[.bool dl, .slice d1 d5 d9, .slice d2 d6 da, .slice d3 d7 db, .slice d4 d8 dc][j]?) (by kernel_rfl) BX.out.2.1.cells (fun hH=> ?_)
  generalize w1.drew=w2 at *
  refine tk 0 (oi:=⟨_,_,_,_,_,_⟩) (v:= ?_) rfl (by kernel_rfl) (fun _ _ _ h=>h) (Or.inl ⟨by rfl, ?_⟩) (by assumption) ?_
  rotate_left
  ·((intro w hSw;(try dsimp only at hSw);go_simp);(try with_reducible rfl))
  try simp only[Act.put,sA,sB,sC]
  refine tk 3 (oi:=⟨_,_,_,_,_,_⟩) (v:= ?_) rfl (by kernel_rfl) (fun _ _ _ h=>h) (Or.inl ⟨by rfl, ?_⟩) (by assumption) ?_
  rotate_left
  ·((intro w hSw;(try dsimp only at hSw);go_simp);(try with_reducible rfl))
  try simp only[Act.put,sA,sB,sC]
  refine wpAnyH_ready (rs:=[1]) (by kernel_rfl) (by simp) ?_
  refine AllReadyH.cons (o:=⟨_,_,_,_,_,_⟩) rfl (fun K hK=> ?_) AllReadyH.nil
  refine(if_pos (show Region.wanted _ _=true by kernel_rfl)).mpr ?_
  refine call_by 67 [.tmp 8] #[35] rfl run_drained [.agg #[.bool dl, .slice d1 d5 d9, .slice d2 d6 da, .slice d3 d7 db, .slice d4 d8 dc]] rfl (DR.out _ BX.out.1) ?_
  rintro e u1 ⟨v1,v2,rfl,t1,t2,b1⟩
  replace BX:Hid (Below w.heap.size w u1/\BoxT u1 (w.heap.size) #[.bool dl, .slice d1 d5 d9, .slice d2 d6 da, .slice d3 d7 db, .slice d4 d8 dc]/\BoxT u1 (w.heap.size+1) #[.bool false, .slice none 0 0, .slice none 0 0, .slice none 0 0, .slice none 0 0]):=⟨Below.and BX.out.1 b1,BX.out.2.1.step b1,BX.out.2.2.step b1⟩
  have HT:Hid _:=And.intro t1 t2
  clear b1 t1 t2
  refine⟨_,rfl, ?_⟩
  refine hK.out _ _ (BX.out.2.1.cells) (fun hH2=> ?_)
  clear hK K hH
  have hH:=hH2
  clear hH2
  try simp only[Act.put,sA,sB,sC]
  refine wpAnyH_ready (rs:=[2]) (by kernel_rfl) (by simp) ?_
  refine AllReadyH.cons (o:=⟨_,_,_,_,_,_⟩) rfl (fun K hK=> ?_) AllReadyH.nil
  refine(if_pos (show Region.wanted _ _=true by kernel_rfl)).mpr ?_
  refine call_by 54 [.tmp 9] #[96] rfl run_rootOver [.agg #[v1,v2]] rfl (RT.out _ _ _ _ HT.out.1 HT.out.2) ?_
  rintro e u2 ⟨x1,rfl,t3,b2⟩
  replace BX:Hid (Below w.heap.size w u2/\BoxT u2 (w.heap.size) #[.bool dl, .slice d1 d5 d9, .slice d2 d6 da, .slice d3 d7 db, .slice d4 d8 dc]/\BoxT u2 (w.heap.size+1) #[.bool false, .slice none 0 0, .slice none 0 0, .slice none 0 0, .slice none 0 0]):=⟨Below.and BX.out.1 b2,BX.out.2.1.step b2,BX.out.2.2.step b2⟩
  have HU:Hid _:=t3
  clear b2 t3 HT
  refine⟨_,rfl, ?_⟩
  refine hK.out _ _ (BX.out.2.1.cells) (fun hH2=> ?_)
  clear hK K hH
  have hH:=hH2
  clear hH2
  try simp only[Act.put,sA,sB,sC]
  refine wpAnyH_ready (rs:=[4]) (by kernel_rfl) (by simp) ?_
  refine AllReadyH.cons (o:=⟨_,_,_,_,_,_⟩) rfl (fun K hK=> ?_) AllReadyH.nil
  refine(if_pos (show Region.wanted _ _=true by kernel_rfl)).mpr ?_
  refine call_by 53 [.tmp 10, .tmp 11] #[35,35] rfl run_copyOfEither [x1.val, .agg #[.bool dl, .slice d1 d5 d9, .slice d2 d6 da, .slice d3 d7 db, .slice d4 d8 dc]] rfl (CE.out _ _ _ BX.out.1 HU.out) ?_
  rintro e u3 ⟨y,rfl,ty,b3⟩
  have hlt:=BX.out.2.2.lt
  replace BX:Hid (Below w.heap.size w u3/\BoxT u3 (w.heap.size) #[.bool dl, .slice d1 d5 d9, .slice d2 d6 da, .slice d3 d7 db, .slice d4 d8 dc]/\BoxT u3 (w.heap.size+1) #[.bool false, .slice none 0 0, .slice none 0 0, .slice none 0 0, .slice none 0 0]):=⟨Below.and BX.out.1 b3,BX.out.2.1.step b3,BX.out.2.2.step b3⟩
  clear b3 HU
  obtain⟨yl,yP,yQ,yR,yS⟩:=y
  obtain⟨y1,y2,y3,y4,y5,y6,y7,y8,y9,ya,yb,yc,hxy⟩:=ty.treeF.slices
  simp only[TV.mk.injEq,true_and] at hxy
  obtain⟨hxy1,hxy2,hxy3,hxy4⟩:=hxy
  subst hxy1 hxy2 hxy3 hxy4
  refine⟨_,rfl, ?_⟩
  refine hK.out _ _ (BX.out.2.1.cells) (fun hH2=> ?_)
  clear hK K hH
  have hH:=hH2
  clear hH2
  try simp only[Act.put,sA,sB,sC]
  have bz:=BX.out.2.2
  have bw:=BX.out.1
  have z8c:=bz.cells
  have z9:=bz.free
  have Z0:=(bz.set5 (.bool yl) (.slice y1 y5 y9) (.slice y2 y6 ya) (.slice y3 y7 yb) (.slice y4 y8 yc)).cells
  have K0:=(BX.out.2.1.chg (chg_setT u3 (w.heap.size+1) (.bool yl) (.slice y1 y5 y9) (.slice y2 y6 ya) (.slice y3 y7 yb) (.slice y4 y8 yc)) (by omega)).cells
  have FIN:Hid (TreeD n (setT u3 (w.heap.size+1) (.bool yl) (.slice y1 y5 y9) (.slice y2 y6 ya) (.slice y3 y7 yb) (.slice y4 y8 yc)) (fun g=>w.heap.size<=g) (TV.mk yl (.slice y1 y5 y9) (.slice y2 y6 ya) (.slice y3 y7 yb) (.slice y4 y8 yc)) T2/\Below w.heap.size w (setT u3 (w.heap.size+1) (.bool yl) (.slice y1 y5 y9) (.slice y2 y6 ya) (.slice y3 y7 yb) (.slice y4 y8 yc))):=
   ⟨(ty.chg (chg_setT u3 (w.heap.size+1) _ _ _ _ _) (fun g hg e=>by omega)).mono (fun g hg=>by omega),setT_below bw (by omega) _ _ _ _ _⟩
  have HZ2:Hid _:=Z0
  clear Z0 ty BX bw
  refine wpAnyH_ready (rs:=[5]) (by kernel_rfl) (by simp) ?_
  refine AllReadyH.cons (o:=⟨_,_,_,_,_,_⟩) rfl (fun K hK=> ?_) AllReadyH.nil
  go_simp
  refine hK.out _ _ (K0) (fun hH2=> ?_)
  clear hK K hH
  have hH:=hH2
  clear hH2
  try simp only[Act.put,sA,sB,sC]
  refine wpAnyH_done (by kernel_rfl) ?_ _
  clear K0 hH bz z8c z9
  go_wp2
  have Z:=HZ2.out
  refine bodyPost_ret (v:= .agg #[.bool yl, .slice y1 y5 y9, .slice y2 y6 ya, .slice y3 y7 yb, .slice y4 y8 yc]) (by simp[results,Tryz.results17,go_sem,Z]) rfl ⟨(TV.mk yl (.slice y1 y5 y9) (.slice y2 y6 ya) (.slice y3 y7 yb) (.slice y4 y8 yc)),rfl,FIN.out.1,FIN.out.2⟩
 ·have hok2:okT T=false:=by simpa using hok
  rw[show drnF T=T by rw[drnF,if_neg hok]]
  rw[hok2] at OK
  go_enter Tryz.func17,Tryz.ntmps17
  go_wp2_with fail
  generalize ((w.alloc (.cells #[.bool dl, .slice d1 d5 d9, .slice d2 d6 da, .slice d3 d7 db, .slice d4 d8 dc] 35)).alloc (.cells #[.bool false, .slice none 0 0, .slice none 0 0, .slice none 0 0, .slice none 0 0] 35))=W0 at *
  refine(OK.out _ BW.out.1).mono ?_
  rintro e w1 ⟨rfl,b1⟩
  obtain⟨p0,p1,p2⟩:=BW.out
  have BX:Hid (Below w.heap.size w w1/\BoxT w1 (w.heap.size) #[.bool dl, .slice d1 d5 d9, .slice d2 d6 da, .slice d3 d7 db, .slice d4 d8 dc]/\BoxT w1 (w.heap.size+1) #[.bool false, .slice none 0 0, .slice none 0 0, .slice none 0 0, .slice none 0 0]):=⟨Below.and p0 b1,p1.step b1,p2.step b1⟩
  clear p0 p1 p2 b1 BW c1
  have c1:=BX.out.2.1.cells
  have hlt:=BX.out.2.2.lt
  go_wp2_with fail
  refine(C2.out _ BX.out.1).mono ?_
  rintro e w2 ⟨y,rfl,ty,b2⟩
  have bz:BoxT w2 (w.heap.size+1) #[.bool false, .slice none 0 0, .slice none 0 0, .slice none 0 0, .slice none 0 0]:=BX.out.2.2.step b2
  have bw:=Below.and BX.out.1 b2
  clear BX c1 OK C2 b2 HH
  obtain⟨yl,yP,yQ,yR,yS⟩:=y
  obtain⟨y1,y2,y3,y4,y5,y6,y7,y8,y9,ya,yb,yc,hxy⟩:=ty.treeF.slices
  simp only[TV.mk.injEq,true_and] at hxy
  obtain⟨hxy1,hxy2,hxy3,hxy4⟩:=hxy
  subst hxy1 hxy2 hxy3 hxy4
  have z8c:=bz.cells
  have z9:=bz.free
  have Z0:=(bz.set5 (.bool yl) (.slice y1 y5 y9) (.slice y2 y6 ya) (.slice y3 y7 yb) (.slice y4 y8 yc)).cells
  have FIN:Hid (TreeD n (setT w2 (w.heap.size+1) (.bool yl) (.slice y1 y5 y9) (.slice y2 y6 ya) (.slice y3 y7 yb) (.slice y4 y8 yc)) (fun g=>w.heap.size<=g) (TV.mk yl (.slice y1 y5 y9) (.slice y2 y6 ya) (.slice y3 y7 yb) (.slice y4 y8 yc)) T/\Below w.heap.size w (setT w2 (w.heap.size+1) (.bool yl) (.slice y1 y5 y9) (.slice y2 y6 ya) (.slice y3 y7 yb) (.slice y4 y8 yc))):=
   ⟨(ty.chg (chg_setT w2 (w.heap.size+1) _ _ _ _ _) (fun g hg e=>by omega)).mono (fun g hg=>by omega),setT_below bw (by omega) _ _ _ _ _⟩
  have HZ2:Hid _:=Z0
  clear Z0 ty
  go_wp2
  have Z:=HZ2.out
  refine bodyPost_ret (v:= .agg #[.bool yl, .slice y1 y5 y9, .slice y2 y6 ya, .slice y3 y7 yb, .slice y4 y8 yc]) (by simp[results,Tryz.results17,go_sem,Z]) rfl ⟨(TV.mk yl (.slice y1 y5 y9) (.slice y2 y6 ya) (.slice y3 y7 yb) (.slice y4 y8 yc)),rfl,FIN.out.1,FIN.out.2⟩
end
end Go.Proofs.YtcmofojechfccaaGreat
