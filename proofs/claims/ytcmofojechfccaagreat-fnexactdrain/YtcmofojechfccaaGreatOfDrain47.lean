/-
  The contract of the program's drained.
-/
import Derived.Test.YtcmofojechfccaaGreatOfDrain46
namespace Go.Proofs.YtcmofojechfccaaGreat
set_option maxRecDepth 100000
set_option maxHeartbeats 8000000
section
open Go.RowKit

theorem msIn_buf {T:Tr} {lo hi:Int} (h:bufOkB T lo hi=true):MsIn lo hi T.buf:=fun m hm=>by
 obtain⟨i,hi0,rfl⟩:=List.getElem_of_mem hm
 have h2:=(bufOk_parts h) _ hm
 have h5:=allB_at h hi0
 simp only[msgAt,Bool.and_eq_true] at h5
 have h4:=h5.2.1
 refine⟨⟨h2.1, ?_⟩,h2.2⟩
 rw[ml_at _ _ hi0]
 show mO T.buf i≠4
 simpa using h4
theorem dr_end {w ws:World} {F:Nat->Prop} {g d:Nat} {x y:Value} {DM:TM} {G:Nat->Prop} (hz:BoxR ws g #[.slice none 0 0, .slice none 0 0]) (u2:BoxR ws (w.heap.size+1) #[.slice none 0 0, .slice none 0 0]) (u3:Below w.heap.size w ws) (t1:TreesF d ws G x DM.1) (t2:RowF ws G y DM.2.length (flatI DM.2)) (hg:w.heap.size+2<=g) (hG:∀h,G h->(F h/\h<w.heap.size)∨(w.heap.size+2<=h/\¬h=g)) :
  BoxR (setR ws g x y) g #[x,y]/\TreesF d (setR ws g x y) (fun h=>(F h/\h<w.heap.size)∨(w.heap.size+2<=h/\¬h=g)) x DM.1/\RowF (setR ws g x y) (fun h=>(F h/\h<w.heap.size)∨(w.heap.size+2<=h/\¬h=g)) y DM.2.length (flatI DM.2)/\BoxR (setR ws g x y) (w.heap.size+1) #[.slice none 0 0, .slice none 0 0]/\Below w.heap.size w (setR ws g x y):=
 ⟨hz.set2 x y,(t1.chg (chg_setR ws g x y) (fun h k e=>by have:=hG h k;omega)).mono hG,(t2.chg (chg_setR ws g x y) (fun h k e=>by have:=hG h k;omega)).mono hG,u2.setR x y (by omega),(u3.setCell (p:=⟨g,0,none⟩) (by show _<=g;omega) x).setCell (p:=⟨g,1,none⟩) (by show _<=g;omega) y⟩

theorem drainedFork_any (d:Nat) (hd:0<d) (H:DrI d) (F:Nat->Prop) (y:TV) (T:Tr) (lo hi:Int) (w:World) (ht:TreeF (d+1) w F y T) (hT:depthF (d+1) T lo hi=d+1) (hl:T.leaf=false) (hn:wt (d+1) T<=100000) :
  Calls Tryz.prog 67 #[y.val] w fun e w' =>∃v1 v2,e= .returned (.agg #[v1,v2])/\TreesF (d+1) w' (fun b=>F b∨w.heap.size<=b) v1 (drainM (d+1) T).1/\RowF w' (fun b=>F b∨w.heap.size<=b) v2 (drainM (d+1) T).2.length (flatI (drainM (d+1) T).2)/\Below w.heap.size w w' :=by
 obtain⟨r1,r2,r3,r4,s1,s2,s3,s4,hy⟩:=ht.treeAt.shape
 obtain⟨hfo,hseg⟩:=Rt.kids hT hl
 obtain⟨o1,o2,o3,o4,o5,o6⟩:=forkOk_parts hfo
 obtain⟨-, -,hcR,hbR,hkR⟩:=ht.parts
 have hbuf:=bufOk_parts o5
 have hMS:MsIn lo hi T.buf:=msIn_buf o5
 have hMO:MOk d (T.kids,T.cuts):=⟨o3,fun t ht' =>by
  obtain⟨i,hi0,rfl⟩:=List.getElem_of_mem ht'
  have e:=(hseg.at i hi0).1
  have e2:T.kids.getD i noTr=T.kids[i]:=by simp[List.getD,hi0]
  rw[e2] at e
  have:=sh_of_depth (m:=d) (T:=T.kids[i]) (lo:=frC T.cuts lo i) (up:=toC T.cuts hi i) (by omega)
  rw[e] at this
  exact this⟩
 have hwt:wtL d T.kids+T.buf.length=wt (d+1) T:=by rw[wt,if_neg (by rw[hl];simp)];rfl
 have hDM:drainM (d+1) T=endD (bothM (fun i=>drainM d ((downM (giveM d) (T.kids,T.cuts) T.buf).1.getD i noTr)) (downM (giveM d) (T.kids,T.cuts) T.buf)):=by rw[drainM,if_neg (by rw[hl];simp)]
 rw[hDM]
 obtain⟨m1,m2,m3⟩:=downM_ok (giveM_ok d) hMO T.buf
 obtain⟨e,he⟩:∃e,d=e+1:=⟨d-1,by omega⟩
 have hsd:∃f2,Seg d f2 lo hi (downM (giveM d) (T.kids,T.cuts) T.buf).2 (downM (giveM d) (T.kids,T.cuts) T.buf).1:=by
  subst he
  exact⟨_,Seg.down (giveM_seg e) (m:=(T.kids,T.cuts)) hseg hMS⟩
 obtain⟨f2,hs2⟩:=hsd
 have h2k:2<=T.kids.length:=o2.1
 rw[hy] at hbR hcR hkR ⊢
 simp only at hbR hcR hkR
 rw[hl]
 have GD:Hid (∀w1,Below w.heap.size w w1->Calls Tryz.prog 119 #[.agg #[.slice r3 T.kids.length s3, .slice r2 T.cuts.length s2], .slice r4 T.buf.length s4] w1 fun e w' =>∃v1 v2,e= .returned (.agg #[v1,v2])/\TreesF d w' (fun b=>(F b/\b<w.heap.size)∨w1.heap.size<=b) v1 (downM (giveM d) (T.kids,T.cuts) T.buf).1/\RowF w' (fun b=>(F b/\b<w.heap.size)∨w1.heap.size<=b) v2 (downM (giveM d) (T.kids,T.cuts) T.buf).2.length (flatI (downM (giveM d) (T.kids,T.cuts) T.buf).2)/\Below w1.heap.size w1 w'):=fun w1 hb=>
  giveDown_any d (give_allI d) (fun b=>F b/\b<w.heap.size) (.slice r3 T.kids.length s3) (.slice r2 T.cuts.length s2) (.slice r4 T.buf.length s4) (T.kids,T.cuts) T.buf _ lo hi w1 (hkR.lt.below hb) ((hcR.lt (flatI_ne _).2).below hb) (hbR.row.below hb) hseg hMS h2k hMO (by show wtL d T.kids+_<=_;omega)
 show Calls Tryz.prog 67 #[.agg #[.bool false, .slice r1 T.pairs.length s1, .slice r2 T.cuts.length s2, .slice r3 T.kids.length s3, .slice r4 T.buf.length s4]] w _
 have h2m:2<=(downM (giveM d) (T.kids,T.cuts) T.buf).1.length:=by have:T.kids.length<=_:=m3;omega
 have hwm:wtL d (downM (giveM d) (T.kids,T.cuts) T.buf).1<=100000:=by have:_<=wtL d T.kids+T.buf.length:=m2;omega
 clear ht hT hl hn hfo hseg o1 o2 o3 o4 o5 o6 hcR hbR hkR hbuf hMS hMO hwt hDM hy m2 m3 h2k he
 generalize downM (giveM d) (T.kids,T.cuts) T.buf=DM at *
 have hdr:∀i,i<DM.1.length->MOk d (drainM d (DM.1.getD i noTr))/\wtL d (drainM d (DM.1.getD i noTr)).1<=wt d (DM.1.getD i noTr)+(fun _=>0) i:=fun i hi0=>drainM_ok d _ (m1.2 _ (getD_mem hi0))
 obtain⟨p1,p2,p3⟩:=bothM_ok m1 (fun i=>drainM d (DM.1.getD i noTr)) (fun _=>0) hdr
 have hz0:((List.range DM.1.length).map (fun _:Nat=>0)).sum=0:=by generalize List.range DM.1.length=rr;induction rr with|nil=>rfl|cons a l ih=>simpa using ih
 rw[hz0] at p2
 have hbl:=wtL_length p1.2
 have KB:Hid (∀(F2:Nat->Prop) (v1 v2:Value) (w1:World),TreesF d w1 F2 v1 DM.1->RowF w1 F2 v2 DM.2.length (flatI DM.2)->Calls Tryz.prog 121 #[.agg #[v1,v2], .func (.func 122) #[] #[]] w1 fun e w' =>∃v1 v2,e= .returned (.agg #[v1,v2])/\TreesF d w' (fun b=>F2 b∨w1.heap.size<=b) v1 (bothM (fun i=>drainM d (DM.1.getD i noTr)) DM).1/\RowF w' (fun b=>F2 b∨w1.heap.size<=b) v2 (bothM (fun i=>drainM d (DM.1.getD i noTr)) DM).2.length (flatI (bothM (fun i=>drainM d (DM.1.getD i noTr)) DM).2)/\Below w1.heap.size w1 w'):=fun F2 v1 v2 w1 t1 t2=>by
  obtain⟨xs,ex,rx⟩:=t1.els
  rw[←ex.1] at rx
  refine kidByKidD_any d F2 v1 v2 DM (fun i=>drainM d (DM.1.getD i noTr)) xs w1 ex rx t2 m1.1 h2m (fun i hi0=>(hdr i hi0).1.1) (fun k hk=> ?_) (fun k hk=> ?_) (fun i u hi0 bu=> ?_)
  ·have:=kbk_bound m1 (fun i=>drainM d (DM.1.getD i noTr)) (fun _=>0) hdr (N:=100000) (by rw[hz0];omega) k hk
   omega
  ·have h1:=wtL_length (hdr k hk).1.2
   have h3:=(hdr k hk).2
   have h5:wt d (DM.1.getD k noTr)<=wtL d DM.1:=wt_le_wtL (getD_mem hk)
   dsimp only at h3
   omega
  ·have h5:wt d (DM.1.getD i noTr)<=wtL d DM.1:=wt_le_wtL (getD_mem hi0)
   exact drained1_any d H (fun g=>F2 g/\g<w1.heap.size) (tvAt xs i) (DM.1.getD i noTr) i (frC DM.2 lo i) (toC DM.2 hi i) u ((ex.2 i (by rw[ex.1];exact hi0)).lt.below bu) (hs2.at i hi0).1 (by omega)
 have FO:Hid (∀(F2:Nat->Prop) (v1 v2:Value) (w1:World),TreesF d w1 F2 v1 (bothM (fun i=>drainM d (DM.1.getD i noTr)) DM).1->RowF w1 F2 v2 (bothM (fun i=>drainM d (DM.1.getD i noTr)) DM).2.length (flatI (bothM (fun i=>drainM d (DM.1.getD i noTr)) DM).2)->Calls Tryz.prog 113 #[.agg #[v1,v2]] w1 fun e w' =>∃v1 v2,e= .returned (.agg #[v1,v2])/\TreesF (d+1) w' (fun b=>F2 b∨w1.heap.size<=b) v1 (endD (bothM (fun i=>drainM d (DM.1.getD i noTr)) DM)).1/\RowF w' (fun b=>F2 b∨w1.heap.size<=b) v2 (endD (bothM (fun i=>drainM d (DM.1.getD i noTr)) DM)).2.length (flatI (endD (bothM (fun i=>drainM d (DM.1.getD i noTr)) DM)).2)/\Below w1.heap.size w1 w'):=fun F2 v1 v2 w1 t1 t2=>
  forksOf_any d F2 v1 v2 (bothM (fun i=>drainM d (DM.1.getD i noTr)) DM) w1 t1 t2 p1.1 (by have:=p1.1;omega)
 clear hdr p1 p2 p3 hz0 hbl m1 hs2 H hd h2m hwm
 generalize bothM (fun i=>drainM d (DM.1.getD i noTr)) DM=BM at *
 have KO:Hid (∀u,Calls Tryz.prog 120 #[.agg #[.bool false, .slice r1 T.pairs.length s1, .slice r2 T.cuts.length s2, .slice r3 T.kids.length s3, .slice r4 T.buf.length s4]] u fun e w' =>e= .returned (.agg #[.slice r3 T.kids.length s3, .slice r2 T.cuts.length s2])/\Below u.heap.size u w'):=fun u=>kidsOf_any false r1 r2 r3 r4 _ _ _ _ s1 s2 s3 s4 u
 generalize T.cuts.length=z2 at *
 generalize T.kids.length=z3 at *
 generalize T.buf.length=z4 at *
 generalize T.pairs.length=z1 at *
 have X0:BoxT ((w.alloc (.cells #[.bool false, .slice r1 z1 s1, .slice r2 z2 s2, .slice r3 z3 s3, .slice r4 z4 s4] 35)).alloc (.cells #[.slice none 0 0, .slice none 0 0] 96)) w.heap.size #[.bool false, .slice r1 z1 s1, .slice r2 z2 s2, .slice r3 z3 s3, .slice r4 z4 s4]:=(BoxT.start w _).step (al1 _ _)
 have X1:BoxR ((w.alloc (.cells #[.bool false, .slice r1 z1 s1, .slice r2 z2 s2, .slice r3 z3 s3, .slice r4 z4 s4] 35)).alloc (.cells #[.slice none 0 0, .slice none 0 0] 96)) (w.heap.size+1) #[.slice none 0 0, .slice none 0 0]:=by
  have:=BoxR.start (w.alloc (.cells #[.bool false, .slice r1 z1 s1, .slice r2 z2 s2, .slice r3 z3 s3, .slice r4 z4 s4] 35)) #[.slice none 0 0, .slice none 0 0]
  rw[World.size_alloc] at this
  exact this
 have ST:Hid (∀u u',Below u.heap.size u u' ->(u.cell? ⟨w.heap.size,0,none⟩=some (.bool false)/\u.cell? ⟨w.heap.size,1,none⟩=some (.slice r1 z1 s1)/\u.cell? ⟨w.heap.size,2,none⟩=some (.slice r2 z2 s2)/\u.cell? ⟨w.heap.size,3,none⟩=some (.slice r3 z3 s3)/\u.cell? ⟨w.heap.size,4,none⟩=some (.slice r4 z4 s4)/\Hid (BoxT u w.heap.size #[.bool false, .slice r1 z1 s1, .slice r2 z2 s2, .slice r3 z3 s3, .slice r4 z4 s4]/\BoxR u (w.heap.size+1) #[.slice none 0 0, .slice none 0 0]/\Below w.heap.size w u))->(u'.cell? ⟨w.heap.size,0,none⟩=some (.bool false)/\u'.cell? ⟨w.heap.size,1,none⟩=some (.slice r1 z1 s1)/\u'.cell? ⟨w.heap.size,2,none⟩=some (.slice r2 z2 s2)/\u'.cell? ⟨w.heap.size,3,none⟩=some (.slice r3 z3 s3)/\u'.cell? ⟨w.heap.size,4,none⟩=some (.slice r4 z4 s4)/\Hid (BoxT u' w.heap.size #[.bool false, .slice r1 z1 s1, .slice r2 z2 s2, .slice r3 z3 s3, .slice r4 z4 s4]/\BoxR u' (w.heap.size+1) #[.slice none 0 0, .slice none 0 0]/\Below w.heap.size w u'))):=fun u u' hb h=>by
  obtain⟨h1,h2,h3⟩:=h.2.2.2.2.2.out
  have k:=h1.step hb
  exact⟨k.cells 0,k.cells 1,k.cells 2,k.cells 3,k.cells 4,k,h2.step hb,Below.and h3 hb⟩
 have KA:=hid (fun (u:World) (o:Obj) (h:(u.cell? ⟨w.heap.size,0,none⟩=some (.bool false)/\u.cell? ⟨w.heap.size,1,none⟩=some (.slice r1 z1 s1)/\u.cell? ⟨w.heap.size,2,none⟩=some (.slice r2 z2 s2)/\u.cell? ⟨w.heap.size,3,none⟩=some (.slice r3 z3 s3)/\u.cell? ⟨w.heap.size,4,none⟩=some (.slice r4 z4 s4)/\Hid (BoxT u w.heap.size #[.bool false, .slice r1 z1 s1, .slice r2 z2 s2, .slice r3 z3 s3, .slice r4 z4 s4]/\BoxR u (w.heap.size+1) #[.slice none 0 0, .slice none 0 0]/\Below w.heap.size w u)))=>ST.out u _ (al1 u o) h)
 have SD:=hid (fun u (h:(u.cell? ⟨w.heap.size,0,none⟩=some (.bool false)/\u.cell? ⟨w.heap.size,1,none⟩=some (.slice r1 z1 s1)/\u.cell? ⟨w.heap.size,2,none⟩=some (.slice r2 z2 s2)/\u.cell? ⟨w.heap.size,3,none⟩=some (.slice r3 z3 s3)/\u.cell? ⟨w.heap.size,4,none⟩=some (.slice r4 z4 s4)/\Hid (BoxT u w.heap.size #[.bool false, .slice r1 z1 s1, .slice r2 z2 s2, .slice r3 z3 s3, .slice r4 z4 s4]/\BoxR u (w.heap.size+1) #[.slice none 0 0, .slice none 0 0]/\Below w.heap.size w u)))=>ST.out u _ (Below.refl _ _).drew h)
 have SB:=hid (fun u (h:(u.cell? ⟨w.heap.size,0,none⟩=some (.bool false)/\u.cell? ⟨w.heap.size,1,none⟩=some (.slice r1 z1 s1)/\u.cell? ⟨w.heap.size,2,none⟩=some (.slice r2 z2 s2)/\u.cell? ⟨w.heap.size,3,none⟩=some (.slice r3 z3 s3)/\u.cell? ⟨w.heap.size,4,none⟩=some (.slice r4 z4 s4)/\Hid (BoxT u w.heap.size #[.bool false, .slice r1 z1 s1, .slice r2 z2 s2, .slice r3 z3 s3, .slice r4 z4 s4]/\BoxR u (w.heap.size+1) #[.slice none 0 0, .slice none 0 0]/\Below w.heap.size w u)))=>h.2.2.2.2.2.out.2.2)
 have KS:Hid (∀(u:World) (g:Nat) (x y:Value),w.heap.size+2<=g->(u.cell? ⟨w.heap.size,0,none⟩=some (.bool false)/\u.cell? ⟨w.heap.size,1,none⟩=some (.slice r1 z1 s1)/\u.cell? ⟨w.heap.size,2,none⟩=some (.slice r2 z2 s2)/\u.cell? ⟨w.heap.size,3,none⟩=some (.slice r3 z3 s3)/\u.cell? ⟨w.heap.size,4,none⟩=some (.slice r4 z4 s4)/\Hid (BoxT u w.heap.size #[.bool false, .slice r1 z1 s1, .slice r2 z2 s2, .slice r3 z3 s3, .slice r4 z4 s4]/\BoxR u (w.heap.size+1) #[.slice none 0 0, .slice none 0 0]/\Below w.heap.size w u))->((setR u g x y).cell? ⟨w.heap.size,0,none⟩=some (.bool false)/\(setR u g x y).cell? ⟨w.heap.size,1,none⟩=some (.slice r1 z1 s1)/\(setR u g x y).cell? ⟨w.heap.size,2,none⟩=some (.slice r2 z2 s2)/\(setR u g x y).cell? ⟨w.heap.size,3,none⟩=some (.slice r3 z3 s3)/\(setR u g x y).cell? ⟨w.heap.size,4,none⟩=some (.slice r4 z4 s4)/\Hid (BoxT (setR u g x y) w.heap.size #[.bool false, .slice r1 z1 s1, .slice r2 z2 s2, .slice r3 z3 s3, .slice r4 z4 s4]/\BoxR (setR u g x y) (w.heap.size+1) #[.slice none 0 0, .slice none 0 0]/\Below w.heap.size w (setR u g x y)))):=fun u g x y hg h=>by
  obtain⟨h1,h2,h3⟩:=h.2.2.2.2.2.out
  have k:=h1.chg (chg_setR u g x y) (show ¬w.heap.size=g by omega)
  exact⟨k.cells 0,k.cells 1,k.cells 2,k.cells 3,k.cells 4,k,h2.setR x y (by omega),(h3.setCell (p:=⟨g,0,none⟩) (by show _<=g;omega) x).setCell (p:=⟨g,1,none⟩) (by show _<=g;omega) y⟩
 have S0:Hid (((w.alloc (.cells #[.bool false, .slice r1 z1 s1, .slice r2 z2 s2, .slice r3 z3 s3, .slice r4 z4 s4] 35)).alloc (.cells #[.slice none 0 0, .slice none 0 0] 96)).cell? ⟨w.heap.size,0,none⟩=some (.bool false)/\((w.alloc (.cells #[.bool false, .slice r1 z1 s1, .slice r2 z2 s2, .slice r3 z3 s3, .slice r4 z4 s4] 35)).alloc (.cells #[.slice none 0 0, .slice none 0 0] 96)).cell? ⟨w.heap.size,1,none⟩=some (.slice r1 z1 s1)/\((w.alloc (.cells #[.bool false, .slice r1 z1 s1, .slice r2 z2 s2, .slice r3 z3 s3, .slice r4 z4 s4] 35)).alloc (.cells #[.slice none 0 0, .slice none 0 0] 96)).cell? ⟨w.heap.size,2,none⟩=some (.slice r2 z2 s2)/\((w.alloc (.cells #[.bool false, .slice r1 z1 s1, .slice r2 z2 s2, .slice r3 z3 s3, .slice r4 z4 s4] 35)).alloc (.cells #[.slice none 0 0, .slice none 0 0] 96)).cell? ⟨w.heap.size,3,none⟩=some (.slice r3 z3 s3)/\((w.alloc (.cells #[.bool false, .slice r1 z1 s1, .slice r2 z2 s2, .slice r3 z3 s3, .slice r4 z4 s4] 35)).alloc (.cells #[.slice none 0 0, .slice none 0 0] 96)).cell? ⟨w.heap.size,4,none⟩=some (.slice r4 z4 s4)/\Hid (BoxT ((w.alloc (.cells #[.bool false, .slice r1 z1 s1, .slice r2 z2 s2, .slice r3 z3 s3, .slice r4 z4 s4] 35)).alloc (.cells #[.slice none 0 0, .slice none 0 0] 96)) w.heap.size #[.bool false, .slice r1 z1 s1, .slice r2 z2 s2, .slice r3 z3 s3, .slice r4 z4 s4]/\BoxR ((w.alloc (.cells #[.bool false, .slice r1 z1 s1, .slice r2 z2 s2, .slice r3 z3 s3, .slice r4 z4 s4] 35)).alloc (.cells #[.slice none 0 0, .slice none 0 0] 96)) (w.heap.size+1) #[.slice none 0 0, .slice none 0 0]/\Below w.heap.size w ((w.alloc (.cells #[.bool false, .slice r1 z1 s1, .slice r2 z2 s2, .slice r3 z3 s3, .slice r4 z4 s4] 35)).alloc (.cells #[.slice none 0 0, .slice none 0 0] 96)))):=⟨X0.cells 0,X0.cells 1,X0.cells 2,X0.cells 3,X0.cells 4,X0,X1,al2 _ _ _⟩
 clear X0 X1
 go_enter Tryz.func67,Tryz.ntmps67
 go_wp2_with fail
 refine wp_gen (fun u=>(u.cell? ⟨w.heap.size,0,none⟩=some (.bool false)/\u.cell? ⟨w.heap.size,1,none⟩=some (.slice r1 z1 s1)/\u.cell? ⟨w.heap.size,2,none⟩=some (.slice r2 z2 s2)/\u.cell? ⟨w.heap.size,3,none⟩=some (.slice r3 z3 s3)/\u.cell? ⟨w.heap.size,4,none⟩=some (.slice r4 z4 s4)/\Hid (BoxT u w.heap.size #[.bool false, .slice r1 z1 s1, .slice r2 z2 s2, .slice r3 z3 s3, .slice r4 z4 s4]/\BoxR u (w.heap.size+1) #[.slice none 0 0, .slice none 0 0]/\Below w.heap.size w u))) S0.out ?_
 rintro wA SW1
 clear S0
 have hA2:w.heap.size+2<=wA.heap.size:=boxR_two_lt SW1.2.2.2.2.2.out.2.1
 go_cut [3] (fun s3' wx=>∃g:Nat,s3' = .pointer (some ⟨g,0,none⟩)/\w.heap.size+2<=g/\Hid (∃(e1 e2:Option Addr) (p1 p2:Nat),(BoxR wx g #[.slice e1 DM.1.length p1, .slice e2 DM.2.length p2]/\TreesF d wx (fun h=>(F h/\h<w.heap.size)∨(w.heap.size+2<=h/\¬h=g)) (.slice e1 DM.1.length p1) DM.1/\RowF wx (fun h=>(F h/\h<w.heap.size)∨(w.heap.size+2<=h/\¬h=g)) (.slice e2 DM.2.length p2) DM.2.length (flatI DM.2)/\BoxR wx (w.heap.size+1) #[.slice none 0 0, .slice none 0 0]/\Below w.heap.size w wx)))
 case first=>
  go_region_held3 (fun u=>(u.cell? ⟨w.heap.size,0,none⟩=some (.bool false)/\u.cell? ⟨w.heap.size,1,none⟩=some (.slice r1 z1 s1)/\u.cell? ⟨w.heap.size,2,none⟩=some (.slice r2 z2 s2)/\u.cell? ⟨w.heap.size,3,none⟩=some (.slice r3 z3 s3)/\u.cell? ⟨w.heap.size,4,none⟩=some (.slice r4 z4 s4)/\Hid (BoxT u w.heap.size #[.bool false, .slice r1 z1 s1, .slice r2 z2 s2, .slice r3 z3 s3, .slice r4 z4 s4]/\BoxR u (w.heap.size+1) #[.slice none 0 0, .slice none 0 0]/\Below w.heap.size w u))) (first|assumption|exact SD.out _ (by assumption)|exact KA.out _ _ (by assumption)|exact KS.out _ _ _ _ (by omega) (by assumption)) (first
   |(go_at_call 120;refine Calls.mono (KO.out _) ?_;rintro e wk ⟨rfl,pbk⟩;have SWk:=ST.out _ _ pbk (by assumption);(first|(have HZK:BoxR wk (wA.heap.size) #[.slice none 0 0, .slice none 0 0]:=hkeep pbk (hdrew (hnew rfl)))|(have HZK:BoxR wk (wA.heap.size) #[.slice none 0 0, .slice none 0 0]:=hkeep pbk (hnew rfl))|skip);have hkk:=boxR_two_lt SWk.2.2.2.2.2.out.2.1;have hpk:=pbk.size;clear pbk)
   |(go_at_call 119;refine Calls.mono (GD.out _ (SB.out _ (by assumption))) ?_;rintro e ws ⟨v1,v2,rfl,t1,t2,pbs⟩;have SWs:=ST.out _ _ pbs (by assumption);(first|(have HZS:BoxR ws (wA.heap.size) #[.slice none 0 0, .slice none 0 0]:=hkeep pbs HZK)|(have HZS:BoxR ws (wk.heap.size) #[.slice none 0 0, .slice none 0 0]:=hkeep pbs (hnew rfl))|skip);have hss:=boxR_two_lt SWs.2.2.2.2.2.out.2.1;have hps:=pbs.size;(first|(obtain⟨f0,f1⟩:=HZS.free;obtain⟨g0,g1⟩:=HZS.two)|skip);obtain⟨c1,y1,hv1,_⟩:=t1.els.choose_spec.2.row.len;obtain⟨c2,y2,hv2,_⟩:=t2.row.len;subst hv1 hv2;have T1:Hid _:=t1;have T2:Hid _:=t2;clear t1 t2 pbs))
  all_goals
   obtain⟨ub1,ub2,ub3⟩:=SWs.2.2.2.2.2.out
   go_wp2
   go_meet
  all_goals
   first
   |exact⟨wk.heap.size,rfl,hkk,c1,c2,y1,y2,dr_end HZS ub2 ub3 T1.out T2.out hkk (fun h k=>by rcases k with k|k;(exact .inl k);(exact .inr ⟨by (try simp at k);omega,by (try simp at k);omega⟩))⟩
   |exact⟨wA.heap.size,rfl,hA2,c1,c2,y1,y2,dr_end HZS ub2 ub3 T1.out T2.out hA2 (fun h k=>by (try simp at hpk);rcases k with k|k;(exact .inl k);(exact .inr ⟨by (try simp at k);omega,by (try simp at k);omega⟩))⟩
   |exact⟨ws.heap.size,rfl,hss,c1,c2,y1,y2,BoxR.start ws _,((TreesF.lt T1.out).below (al1 _ _)).mono (fun h k=>by rcases k with⟨k|k,k2⟩;(exact .inl k);(exact .inr ⟨by (try simp at k);omega,by omega⟩)),((RowF.lt T2.out (flatI_ne _).2).below (al1 _ _)).mono (fun h k=>by rcases k with⟨k|k,k2⟩;(exact .inl k);(exact .inr ⟨by (try simp at k);omega,by omega⟩)),ub2.step (al1 _ _),Below.and ub3 (al1 _ _)⟩
 case rest=>
 obtain⟨g,rfl,hg2,e1,e2,p1,p2,b1,t1,t2,b2,b3⟩:=hcut
 clear KO GD ST KA SD SB KS SW1 hA2
 have hsx:w.heap.size+2<=wc.heap.size:=boxR_two_lt b2
 obtain⟨k0,k1⟩:=b1.two
 have K1:Hid _:=KB.out _ _ _ wc t1 t2
 have B2:=hid (b2)
 have B3:=hid (b3)
 clear b1 t1 t2 b2 b3 KB
 go_wp2_with fail
 refine Calls.mono K1.out ?_
 rintro e w1 ⟨v1,v2,rfl,t1,t2,pb1⟩
 obtain⟨x1,n1,hv1,_⟩:=t1.els.choose_spec.2.row.len
 obtain⟨x2,n2,hv2,_⟩:=t2.row.len
 subst hv1 hv2
 have F1:Hid _:=FO.out _ _ _ w1 t1 t2
 have R1:=hid (B2.out.step pb1)
 have B1:=hid (Below.and B3.out pb1)
 have hs1:wc.heap.size<=w1.heap.size:=pb1.size
 clear t1 t2 pb1 K1 FO
 go_wp2_with fail
 refine Calls.mono F1.out ?_
 rintro e w2 ⟨v1,v2,rfl,t1,t2,pb2⟩
 obtain⟨c1,y1,hv1,_⟩:=t1.els.choose_spec.2.row.len
 obtain⟨c2,y2,hv2,_⟩:=t2.row.len
 subst hv1 hv2
 have R2:=R1.out.step pb2
 obtain⟨g0,g1⟩:=R2.two
 obtain⟨g2,g3⟩:=R2.free
 have FIN:Hid (TreesF (d+1) (setR w2 (w.heap.size+1) (.slice c1 (endD BM).1.length y1) (.slice c2 (endD BM).2.length y2)) (fun h=>F h∨w.heap.size<=h) (.slice c1 (endD BM).1.length y1) (endD BM).1/\RowF (setR w2 (w.heap.size+1) (.slice c1 (endD BM).1.length y1) (.slice c2 (endD BM).2.length y2)) (fun h=>F h∨w.heap.size<=h) (.slice c2 (endD BM).2.length y2) (endD BM).2.length (flatI (endD BM).2)/\Below w.heap.size w (setR w2 (w.heap.size+1) (.slice c1 (endD BM).1.length y1) (.slice c2 (endD BM).2.length y2))/\BoxR (setR w2 (w.heap.size+1) (.slice c1 (endD BM).1.length y1) (.slice c2 (endD BM).2.length y2)) (w.heap.size+1) #[.slice c1 (endD BM).1.length y1, .slice c2 (endD BM).2.length y2]):=by
  have D:∀h,(((F h/\h<w.heap.size)∨(w.heap.size+2<=h/\¬h=g))∨wc.heap.size<=h)∨w1.heap.size<=h->¬h=w.heap.size+1:=fun h hh e=>by rcases hh with((⟨_,hh⟩|⟨hh,_⟩)|hh)|hh<;>omega
  have M1:∀h,(((F h/\h<w.heap.size)∨(w.heap.size+2<=h/\¬h=g))∨wc.heap.size<=h)∨w1.heap.size<=h->F h∨w.heap.size<=h:=fun h hh=>by
   rcases hh with((⟨hh,_⟩|⟨hh,_⟩)|hh)|hh
   ·exact .inl hh
   ·exact .inr (by omega)
   ·exact .inr (by omega)
   ·exact .inr (by omega)
  exact⟨(t1.chg (chg_setR w2 (w.heap.size+1) _ _) (fun h k=>D h k)).mono M1,(t2.chg (chg_setR w2 (w.heap.size+1) _ _) (fun h k=>D h k)).mono M1,((Below.and B1.out pb2).setCell (p:=⟨w.heap.size+1,0,none⟩) (Nat.le_succ _) _).setCell (p:=⟨w.heap.size+1,1,none⟩) (Nat.le_succ _) _,R2.set2 _ _⟩
 clear t1 t2 pb2 R2 F1
 go_wp2
 have ZZ:=FIN.out.2.2.2.two
 exact bodyPost_ret (v:= .agg #[.slice c1 (endD BM).1.length y1, .slice c2 (endD BM).2.length y2]) (by simp[results,Tryz.results67,go_sem,ZZ.1,ZZ.2]) rfl ⟨_,_,rfl,FIN.out.1,FIN.out.2.1,FIN.out.2.2.1⟩

theorem drained_allI:∀d,DrI d
 |0=>fun _ _ _ _ _ _ ht _ _=>ht.elim
 |d+1=>fun F x T lo hi w ht hT hn=>by
  cases hl:T.leaf
  ·by_cases hd:0<d
   ·exact drainedFork_any d hd (drained_allI d) F x T lo hi w ht hT hl hn
   ·exfalso
    obtain rfl:d=0:=by omega
    obtain⟨hfo,hseg⟩:=Rt.kids hT hl
    obtain⟨o1,o2,o3,o4,o5,o6⟩:=forkOk_parts hfo
    obtain⟨-, -, -, -,xs,hx,_,hk⟩:=ht.parts
    exact hk 0 (by have:=o2.1;omega)
  ·rw[drainM,if_pos hl]
   exact drainedLeaf_any (d+1) F x T w ht hl
end
end Go.Proofs.YtcmofojechfccaaGreat
