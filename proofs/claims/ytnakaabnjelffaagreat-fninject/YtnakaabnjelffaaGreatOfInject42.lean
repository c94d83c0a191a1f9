/-
  The contract of the program's drained.
  The program's Drain.
  What Inject makes of a tree is what is done to its map, as long as there are few leaves and messages; plain mathematics.
-/
import Derived.Test.YtnakaabnjelffaaGreatOfInject41
import Derived.Test.YtnakaabnjelffaaGreatOfInject37
import Derived.Test.YtnakaabnjelffaaGreatOfInject26
import Derived.Test.YtnakaabnjelffaaGreatOfInject18
import Derived.Test.YtnakaabnjelffaaGreatOfInject28
import Derived.Test.YtnakaabnjelffaaGreatOfInject11
namespace Go.Proofs.YtnakaabnjelffaaGreat
set_option maxRecDepth 100000
set_option maxHeartbeats 8000000
section
open Go.RowKit

theorem Wp {T:Tr} {lo hi:Int} (h:Gi T lo hi=true):ES lo hi T.buf:=fun m hm=>by
 obtain⟨i,hi0,rfl⟩:=List.getElem_of_mem hm
 have h2:=(DU h) _ hm
 have h5:=Fb h hi0
 simp only[Ex,Bool.and_eq_true] at h5
 have h4:=h5.2.1
 refine⟨⟨h2.1, ?_⟩,h2.2⟩
 rw[DV _ _ hi0]
 show mO T.buf i≠4
 simpa using h4
theorem W4 {w ws:World} {F:Nat->Prop} {g d:Nat} {x y:Value} {DM:TM} {G:Nat->Prop} (hz:Ai ws g #[.slice none 0 0, .slice none 0 0]) (u2:Ai ws (w.heap.size+1) #[.slice none 0 0, .slice none 0 0]) (u3:Below w.heap.size w ws) (t1:Ad d ws G x DM.1) (t2:Aj ws G y DM.2.length (Ab DM.2)) (hg:w.heap.size+2<=g) (hG:∀h,G h->(F h/\h<w.heap.size)∨(w.heap.size+2<=h/\¬h=g)) :
  Ai (setR ws g x y) g #[x,y]/\Ad d (setR ws g x y) (fun h=>(F h/\h<w.heap.size)∨(w.heap.size+2<=h/\¬h=g)) x DM.1/\Aj (setR ws g x y) (fun h=>(F h/\h<w.heap.size)∨(w.heap.size+2<=h/\¬h=g)) y DM.2.length (Ab DM.2)/\Ai (setR ws g x y) (w.heap.size+1) #[.slice none 0 0, .slice none 0 0]/\Below w.heap.size w (setR ws g x y):=
 ⟨hz.set2 x y,(t1.chg (Av ws g x y) (fun h k e=>by have:=hG h k;omega)).mono hG,(t2.chg (Av ws g x y) (fun h k e=>by have:=hG h k;omega)).mono hG,u2.setR x y (by omega),(u3.setCell (p:=⟨g,0,none⟩) (by show _<=g;omega) x).setCell (p:=⟨g,1,none⟩) (by show _<=g;omega) y⟩

theorem Lq (d:Nat) (hd:0<d) (H:DrI d) (F:Nat->Prop) (y:TV) (T:Tr) (lo hi:Int) (w:World) (ht:Aq (d+1) w F y T) (hT:AG (d+1) T lo hi=d+1) (hl:T.leaf=false) (hn:wt (d+1) T<=100000) :
  Calls Tryz.prog 33 #[y.val] w fun e w' =>∃v1 v2,e= .returned (.agg #[v1,v2])/\Ad (d+1) w' (fun b=>F b∨w.heap.size<=b) v1 (An (d+1) T).1/\Aj w' (fun b=>F b∨w.heap.size<=b) v2 (An (d+1) T).2.length (Ab (An (d+1) T).2)/\Below w.heap.size w w' :=by
 obtain⟨r1,r2,r3,r4,s1,s2,s3,s4,hy⟩:=ht.treeAt.shape
 obtain⟨hfo,hseg⟩:=Rt.kids hT hl
 obtain⟨o1,o2,o3,o4,o5,o6⟩:=AW hfo
 obtain⟨-, -,hcR,hbR,hkR⟩:=ht.parts
 have hbuf:=DU o5
 have hMS:ES lo hi T.buf:=Wp o5
 have hMO:MOk d (T.kids,T.cuts):=⟨o3,fun t ht' =>by
  obtain⟨i,hi0,rfl⟩:=List.getElem_of_mem ht'
  have e:=(hseg.at i hi0).1
  have e2:T.kids.getD i Ah=T.kids[i]:=by simp[List.getD,hi0]
  rw[e2] at e
  have:=Du (m:=d) (T:=T.kids[i]) (lo:=frC T.cuts lo i) (up:=toC T.cuts hi i) (by omega)
  rw[e] at this
  exact this⟩
 have hwt:wtL d T.kids+T.buf.length=wt (d+1) T:=by rw[wt,if_neg (by rw[hl];simp)];rfl
 have hDM:An (d+1) T=Bc (BE (fun i=>An d ((Ba (Ae d) (T.kids,T.cuts) T.buf).1.getD i Ah)) (Ba (Ae d) (T.kids,T.cuts) T.buf)):=by rw[An,if_neg (by rw[hl];simp)]
 rw[hDM]
 obtain⟨m1,m2,m3⟩:=Eu (Bh d) hMO T.buf
 obtain⟨e,he⟩:∃e,d=e+1:=⟨d-1,by omega⟩
 have hsd:∃f2,Seg d f2 lo hi (Ba (Ae d) (T.kids,T.cuts) T.buf).2 (Ba (Ae d) (T.kids,T.cuts) T.buf).1:=by
  subst he;exact⟨_,Seg.down (Im e) (m:=(T.kids,T.cuts)) hseg hMS⟩
 obtain⟨f2,hs2⟩:=hsd
 have h2k:2<=T.kids.length:=o2.1
 rw[hy] at hbR hcR hkR ⊢
 simp only at hbR hcR hkR
 rw[hl]
 have GD:Hid (∀w1,Below w.heap.size w w1->Calls Tryz.prog 67 #[.agg #[.slice r3 T.kids.length s3, .slice r2 T.cuts.length s2], .slice r4 T.buf.length s4] w1 fun e w' =>∃v1 v2,e= .returned (.agg #[v1,v2])/\Ad d w' (fun b=>(F b/\b<w.heap.size)∨w1.heap.size<=b) v1 (Ba (Ae d) (T.kids,T.cuts) T.buf).1/\Aj w' (fun b=>(F b/\b<w.heap.size)∨w1.heap.size<=b) v2 (Ba (Ae d) (T.kids,T.cuts) T.buf).2.length (Ab (Ba (Ae d) (T.kids,T.cuts) T.buf).2)/\Below w1.heap.size w1 w'):=fun w1 hb=>
  JW d (Ku d) (fun b=>F b/\b<w.heap.size) (.slice r3 T.kids.length s3) (.slice r2 T.cuts.length s2) (.slice r4 T.buf.length s4) (T.kids,T.cuts) T.buf _ lo hi w1 (hkR.lt.below hb) ((hcR.lt (Ch _).2).below hb) (hbR.row.below hb) hseg hMS h2k hMO (by show wtL d T.kids+_<=_;omega)
 show Calls Tryz.prog 33 #[.agg #[.bool false, .slice r1 T.pairs.length s1, .slice r2 T.cuts.length s2, .slice r3 T.kids.length s3, .slice r4 T.buf.length s4]] w _
 have h2m:2<=(Ba (Ae d) (T.kids,T.cuts) T.buf).1.length:=by have:T.kids.length<=_:=m3;omega
 have hwm:wtL d (Ba (Ae d) (T.kids,T.cuts) T.buf).1<=100000:=by have:_<=wtL d T.kids+T.buf.length:=m2;omega
 clear ht hT hl hn hfo hseg o1 o2 o3 o4 o5 o6 hcR hbR hkR hbuf hMS hMO hwt hDM hy m2 m3 h2k he;generalize Ba (Ae d) (T.kids,T.cuts) T.buf=DM at *
 have hdr:∀i,i<DM.1.length->MOk d (An d (DM.1.getD i Ah))/\wtL d (An d (DM.1.getD i Ah)).1<=wt d (DM.1.getD i Ah)+(fun _=>0) i:=fun i hi0=>Fp d _ (m1.2 _ (Bd hi0))
 obtain⟨p1,p2,p3⟩:=H7 m1 (fun i=>An d (DM.1.getD i Ah)) (fun _=>0) hdr
 have hz0:((List.range DM.1.length).map (fun _:Nat=>0)).sum=0:=by generalize List.range DM.1.length=rr;induction rr with|nil=>rfl|cons a l ih=>simpa using ih
 rw[hz0] at p2
 have hbl:=AY p1.2
 have KB:Hid (∀(F2:Nat->Prop) (v1 v2:Value) (w1:World),Ad d w1 F2 v1 DM.1->Aj w1 F2 v2 DM.2.length (Ab DM.2)->Calls Tryz.prog 69 #[.agg #[v1,v2], .func (.func 70) #[] #[]] w1 fun e w' =>∃v1 v2,e= .returned (.agg #[v1,v2])/\Ad d w' (fun b=>F2 b∨w1.heap.size<=b) v1 (BE (fun i=>An d (DM.1.getD i Ah)) DM).1/\Aj w' (fun b=>F2 b∨w1.heap.size<=b) v2 (BE (fun i=>An d (DM.1.getD i Ah)) DM).2.length (Ab (BE (fun i=>An d (DM.1.getD i Ah)) DM).2)/\Below w1.heap.size w1 w'):=fun F2 v1 v2 w1 t1 t2=>by
  obtain⟨xs,ex,rx⟩:=t1.els
  rw[←ex.1] at rx
  refine Nu d F2 v1 v2 DM (fun i=>An d (DM.1.getD i Ah)) xs w1 ex rx t2 m1.1 h2m (fun i hi0=>(hdr i hi0).1.1) (fun k hk=> ?_) (fun k hk=> ?_) (fun i u hi0 bu=> ?_)
  ·have:=NV m1 (fun i=>An d (DM.1.getD i Ah)) (fun _=>0) hdr (N:=100000) (by rw[hz0];omega) k hk
   omega
  ·have h1:=AY (hdr k hk).1.2
   have h3:=(hdr k hk).2
   have h5:wt d (DM.1.getD k Ah)<=wtL d DM.1:=GQ (Bd hk)
   dsimp only at h3
   omega
  ·have h5:wt d (DM.1.getD i Ah)<=wtL d DM.1:=GQ (Bd hi0)
   exact Qa d H (fun g=>F2 g/\g<w1.heap.size) (Ay xs i) (DM.1.getD i Ah) i (frC DM.2 lo i) (toC DM.2 hi i) u ((ex.2 i (by rw[ex.1];exact hi0)).lt.below bu) (hs2.at i hi0).1 (by omega)
 have FO:Hid (∀(F2:Nat->Prop) (v1 v2:Value) (w1:World),Ad d w1 F2 v1 (BE (fun i=>An d (DM.1.getD i Ah)) DM).1->Aj w1 F2 v2 (BE (fun i=>An d (DM.1.getD i Ah)) DM).2.length (Ab (BE (fun i=>An d (DM.1.getD i Ah)) DM).2)->Calls Tryz.prog 52 #[.agg #[v1,v2]] w1 fun e w' =>∃v1 v2,e= .returned (.agg #[v1,v2])/\Ad (d+1) w' (fun b=>F2 b∨w1.heap.size<=b) v1 (Bc (BE (fun i=>An d (DM.1.getD i Ah)) DM)).1/\Aj w' (fun b=>F2 b∨w1.heap.size<=b) v2 (Bc (BE (fun i=>An d (DM.1.getD i Ah)) DM)).2.length (Ab (Bc (BE (fun i=>An d (DM.1.getD i Ah)) DM)).2)/\Below w1.heap.size w1 w'):=fun F2 v1 v2 w1 t1 t2=>
  GH d F2 v1 v2 (BE (fun i=>An d (DM.1.getD i Ah)) DM) w1 t1 t2 p1.1 (by have:=p1.1;omega)
 clear hdr p1 p2 p3 hz0 hbl m1 hs2 H hd h2m hwm;generalize BE (fun i=>An d (DM.1.getD i Ah)) DM=BM at *
 have KO:Hid (∀u,Calls Tryz.prog 68 #[.agg #[.bool false, .slice r1 T.pairs.length s1, .slice r2 T.cuts.length s2, .slice r3 T.kids.length s3, .slice r4 T.buf.length s4]] u fun e w' =>e= .returned (.agg #[.slice r3 T.kids.length s3, .slice r2 T.cuts.length s2])/\Below u.heap.size u w'):=fun u=>Mh false r1 r2 r3 r4 _ _ _ _ s1 s2 s3 s4 u
 generalize T.cuts.length=z2 at *
 generalize T.kids.length=z3 at *
 generalize T.buf.length=z4 at *
 generalize T.pairs.length=z1 at *
 have X0:CF ((w.alloc (.cells #[.bool false, .slice r1 z1 s1, .slice r2 z2 s2, .slice r3 z3 s3, .slice r4 z4 s4] 29)).alloc (.cells #[.slice none 0 0, .slice none 0 0] 52)) w.heap.size #[.bool false, .slice r1 z1 s1, .slice r2 z2 s2, .slice r3 z3 s3, .slice r4 z4 s4]:=(CF.start w _).step (al1 _ _)
 have X1:Ai ((w.alloc (.cells #[.bool false, .slice r1 z1 s1, .slice r2 z2 s2, .slice r3 z3 s3, .slice r4 z4 s4] 29)).alloc (.cells #[.slice none 0 0, .slice none 0 0] 52)) (w.heap.size+1) #[.slice none 0 0, .slice none 0 0]:=by
  have:=Ai.start (w.alloc (.cells #[.bool false, .slice r1 z1 s1, .slice r2 z2 s2, .slice r3 z3 s3, .slice r4 z4 s4] 29)) #[.slice none 0 0, .slice none 0 0]
  rw[World.size_alloc] at this
  exact this
 have ST:Hid (∀u u',Below u.heap.size u u' ->(u.cell? ⟨w.heap.size,0,none⟩=some (.bool false)/\u.cell? ⟨w.heap.size,1,none⟩=some (.slice r1 z1 s1)/\u.cell? ⟨w.heap.size,2,none⟩=some (.slice r2 z2 s2)/\u.cell? ⟨w.heap.size,3,none⟩=some (.slice r3 z3 s3)/\u.cell? ⟨w.heap.size,4,none⟩=some (.slice r4 z4 s4)/\Hid (CF u w.heap.size #[.bool false, .slice r1 z1 s1, .slice r2 z2 s2, .slice r3 z3 s3, .slice r4 z4 s4]/\Ai u (w.heap.size+1) #[.slice none 0 0, .slice none 0 0]/\Below w.heap.size w u))->(u'.cell? ⟨w.heap.size,0,none⟩=some (.bool false)/\u'.cell? ⟨w.heap.size,1,none⟩=some (.slice r1 z1 s1)/\u'.cell? ⟨w.heap.size,2,none⟩=some (.slice r2 z2 s2)/\u'.cell? ⟨w.heap.size,3,none⟩=some (.slice r3 z3 s3)/\u'.cell? ⟨w.heap.size,4,none⟩=some (.slice r4 z4 s4)/\Hid (CF u' w.heap.size #[.bool false, .slice r1 z1 s1, .slice r2 z2 s2, .slice r3 z3 s3, .slice r4 z4 s4]/\Ai u' (w.heap.size+1) #[.slice none 0 0, .slice none 0 0]/\Below w.heap.size w u'))):=fun u u' hb h=>by
  obtain⟨h1,h2,h3⟩:=h.2.2.2.2.2.out
  have k:=h1.step hb
  exact⟨k.cells 0,k.cells 1,k.cells 2,k.cells 3,k.cells 4,k,h2.step hb,Below.and h3 hb⟩
 have KA:=hid (fun (u:World) (o:Obj) (h:(u.cell? ⟨w.heap.size,0,none⟩=some (.bool false)/\u.cell? ⟨w.heap.size,1,none⟩=some (.slice r1 z1 s1)/\u.cell? ⟨w.heap.size,2,none⟩=some (.slice r2 z2 s2)/\u.cell? ⟨w.heap.size,3,none⟩=some (.slice r3 z3 s3)/\u.cell? ⟨w.heap.size,4,none⟩=some (.slice r4 z4 s4)/\Hid (CF u w.heap.size #[.bool false, .slice r1 z1 s1, .slice r2 z2 s2, .slice r3 z3 s3, .slice r4 z4 s4]/\Ai u (w.heap.size+1) #[.slice none 0 0, .slice none 0 0]/\Below w.heap.size w u)))=>ST.out u _ (al1 u o) h)
 have SD:=hid (fun u (h:(u.cell? ⟨w.heap.size,0,none⟩=some (.bool false)/\u.cell? ⟨w.heap.size,1,none⟩=some (.slice r1 z1 s1)/\u.cell? ⟨w.heap.size,2,none⟩=some (.slice r2 z2 s2)/\u.cell? ⟨w.heap.size,3,none⟩=some (.slice r3 z3 s3)/\u.cell? ⟨w.heap.size,4,none⟩=some (.slice r4 z4 s4)/\Hid (CF u w.heap.size #[.bool false, .slice r1 z1 s1, .slice r2 z2 s2, .slice r3 z3 s3, .slice r4 z4 s4]/\Ai u (w.heap.size+1) #[.slice none 0 0, .slice none 0 0]/\Below w.heap.size w u)))=>ST.out u _ (Below.refl _ _).drew h)
 have SB:=hid (fun u (h:(u.cell? ⟨w.heap.size,0,none⟩=some (.bool false)/\u.cell? ⟨w.heap.size,1,none⟩=some (.slice r1 z1 s1)/\u.cell? ⟨w.heap.size,2,none⟩=some (.slice r2 z2 s2)/\u.cell? ⟨w.heap.size,3,none⟩=some (.slice r3 z3 s3)/\u.cell? ⟨w.heap.size,4,none⟩=some (.slice r4 z4 s4)/\Hid (CF u w.heap.size #[.bool false, .slice r1 z1 s1, .slice r2 z2 s2, .slice r3 z3 s3, .slice r4 z4 s4]/\Ai u (w.heap.size+1) #[.slice none 0 0, .slice none 0 0]/\Below w.heap.size w u)))=>h.2.2.2.2.2.out.2.2)
 have KS:Hid (∀(u:World) (g:Nat) (x y:Value),w.heap.size+2<=g->(u.cell? ⟨w.heap.size,0,none⟩=some (.bool false)/\u.cell? ⟨w.heap.size,1,none⟩=some (.slice r1 z1 s1)/\u.cell? ⟨w.heap.size,2,none⟩=some (.slice r2 z2 s2)/\u.cell? ⟨w.heap.size,3,none⟩=some (.slice r3 z3 s3)/\u.cell? ⟨w.heap.size,4,none⟩=some (.slice r4 z4 s4)/\Hid (CF u w.heap.size #[.bool false, .slice r1 z1 s1, .slice r2 z2 s2, .slice r3 z3 s3, .slice r4 z4 s4]/\Ai u (w.heap.size+1) #[.slice none 0 0, .slice none 0 0]/\Below w.heap.size w u))->((setR u g x y).cell? ⟨w.heap.size,0,none⟩=some (.bool false)/\(setR u g x y).cell? ⟨w.heap.size,1,none⟩=some (.slice r1 z1 s1)/\(setR u g x y).cell? ⟨w.heap.size,2,none⟩=some (.slice r2 z2 s2)/\(setR u g x y).cell? ⟨w.heap.size,3,none⟩=some (.slice r3 z3 s3)/\(setR u g x y).cell? ⟨w.heap.size,4,none⟩=some (.slice r4 z4 s4)/\Hid (CF (setR u g x y) w.heap.size #[.bool false, .slice r1 z1 s1, .slice r2 z2 s2, .slice r3 z3 s3, .slice r4 z4 s4]/\Ai (setR u g x y) (w.heap.size+1) #[.slice none 0 0, .slice none 0 0]/\Below w.heap.size w (setR u g x y)))):=fun u g x y hg h=>by
  obtain⟨h1,h2,h3⟩:=h.2.2.2.2.2.out
  have k:=h1.chg (Av u g x y) (show ¬w.heap.size=g by omega)
  exact⟨k.cells 0,k.cells 1,k.cells 2,k.cells 3,k.cells 4,k,h2.setR x y (by omega),(h3.setCell (p:=⟨g,0,none⟩) (by show _<=g;omega) x).setCell (p:=⟨g,1,none⟩) (by show _<=g;omega) y⟩
 have S0:Hid (((w.alloc (.cells #[.bool false, .slice r1 z1 s1, .slice r2 z2 s2, .slice r3 z3 s3, .slice r4 z4 s4] 29)).alloc (.cells #[.slice none 0 0, .slice none 0 0] 52)).cell? ⟨w.heap.size,0,none⟩=some (.bool false)/\((w.alloc (.cells #[.bool false, .slice r1 z1 s1, .slice r2 z2 s2, .slice r3 z3 s3, .slice r4 z4 s4] 29)).alloc (.cells #[.slice none 0 0, .slice none 0 0] 52)).cell? ⟨w.heap.size,1,none⟩=some (.slice r1 z1 s1)/\((w.alloc (.cells #[.bool false, .slice r1 z1 s1, .slice r2 z2 s2, .slice r3 z3 s3, .slice r4 z4 s4] 29)).alloc (.cells #[.slice none 0 0, .slice none 0 0] 52)).cell? ⟨w.heap.size,2,none⟩=some (.slice r2 z2 s2)/\((w.alloc (.cells #[.bool false, .slice r1 z1 s1, .slice r2 z2 s2, .slice r3 z3 s3, .slice r4 z4 s4] 29)).alloc (.cells #[.slice none 0 0, .slice none 0 0] 52)).cell? ⟨w.heap.size,3,none⟩=some (.slice r3 z3 s3)/\((w.alloc (.cells #[.bool false, .slice r1 z1 s1, .slice r2 z2 s2, .slice r3 z3 s3, .slice r4 z4 s4] 29)).alloc (.cells #[.slice none 0 0, .slice none 0 0] 52)).cell? ⟨w.heap.size,4,none⟩=some (.slice r4 z4 s4)/\Hid (CF ((w.alloc (.cells #[.bool false, .slice r1 z1 s1, .slice r2 z2 s2, .slice r3 z3 s3, .slice r4 z4 s4] 29)).alloc (.cells #[.slice none 0 0, .slice none 0 0] 52)) w.heap.size #[.bool false, .slice r1 z1 s1, .slice r2 z2 s2, .slice r3 z3 s3, .slice r4 z4 s4]/\Ai ((w.alloc (.cells #[.bool false, .slice r1 z1 s1, .slice r2 z2 s2, .slice r3 z3 s3, .slice r4 z4 s4] 29)).alloc (.cells #[.slice none 0 0, .slice none 0 0] 52)) (w.heap.size+1) #[.slice none 0 0, .slice none 0 0]/\Below w.heap.size w ((w.alloc (.cells #[.bool false, .slice r1 z1 s1, .slice r2 z2 s2, .slice r3 z3 s3, .slice r4 z4 s4] 29)).alloc (.cells #[.slice none 0 0, .slice none 0 0] 52)))):=⟨X0.cells 0,X0.cells 1,X0.cells 2,X0.cells 3,X0.cells 4,X0,X1,al2 _ _ _⟩
 clear X0 X1;go_enter Tryz.func33,Tryz.ntmps33
 go_wp2_with fail;refine Cj (fun u=>(u.cell? ⟨w.heap.size,0,none⟩=some (.bool false)/\u.cell? ⟨w.heap.size,1,none⟩=some (.slice r1 z1 s1)/\u.cell? ⟨w.heap.size,2,none⟩=some (.slice r2 z2 s2)/\u.cell? ⟨w.heap.size,3,none⟩=some (.slice r3 z3 s3)/\u.cell? ⟨w.heap.size,4,none⟩=some (.slice r4 z4 s4)/\Hid (CF u w.heap.size #[.bool false, .slice r1 z1 s1, .slice r2 z2 s2, .slice r3 z3 s3, .slice r4 z4 s4]/\Ai u (w.heap.size+1) #[.slice none 0 0, .slice none 0 0]/\Below w.heap.size w u))) S0.out ?_
 rintro wA SW1
 clear S0;have hA2:w.heap.size+2<=wA.heap.size:=Ca SW1.2.2.2.2.2.out.2.1
 go_cut [3] (fun s3' wx=>∃g:Nat,s3' = .pointer (some ⟨g,0,none⟩)/\w.heap.size+2<=g/\Hid (∃(e1 e2:Option Addr) (p1 p2:Nat),(Ai wx g #[.slice e1 DM.1.length p1, .slice e2 DM.2.length p2]/\Ad d wx (fun h=>(F h/\h<w.heap.size)∨(w.heap.size+2<=h/\¬h=g)) (.slice e1 DM.1.length p1) DM.1/\Aj wx (fun h=>(F h/\h<w.heap.size)∨(w.heap.size+2<=h/\¬h=g)) (.slice e2 DM.2.length p2) DM.2.length (Ab DM.2)/\Ai wx (w.heap.size+1) #[.slice none 0 0, .slice none 0 0]/\Below w.heap.size w wx)))
 case first=>
  go_region_held3 (fun u=>(u.cell? ⟨w.heap.size,0,none⟩=some (.bool false)/\u.cell? ⟨w.heap.size,1,none⟩=some (.slice r1 z1 s1)/\u.cell? ⟨w.heap.size,2,none⟩=some (.slice r2 z2 s2)/\u.cell? ⟨w.heap.size,3,none⟩=some (.slice r3 z3 s3)/\u.cell? ⟨w.heap.size,4,none⟩=some (.slice r4 z4 s4)/\Hid (CF u w.heap.size #[.bool false, .slice r1 z1 s1, .slice r2 z2 s2, .slice r3 z3 s3, .slice r4 z4 s4]/\Ai u (w.heap.size+1) #[.slice none 0 0, .slice none 0 0]/\Below w.heap.size w u))) (first|assumption|exact SD.out _ (by assumption)|exact KA.out _ _ (by assumption)|exact KS.out _ _ _ _ (by omega) (by assumption)) (first
   |(go_at_call 68;refine Calls.mono (KO.out _) ?_;rintro e wk ⟨rfl,pbk⟩;have SWk:=ST.out _ _ pbk (by assumption);(first|(have HZK:Ai wk (wA.heap.size) #[.slice none 0 0, .slice none 0 0]:=Ck pbk (FP (DY rfl)))|(have HZK:Ai wk (wA.heap.size) #[.slice none 0 0, .slice none 0 0]:=Ck pbk (DY rfl))|skip);have hkk:=Ca SWk.2.2.2.2.2.out.2.1;have hpk:=pbk.size;clear pbk)
   |(go_at_call 67;refine Calls.mono (GD.out _ (SB.out _ (by assumption))) ?_;rintro e ws ⟨v1,v2,rfl,t1,t2,pbs⟩;have SWs:=ST.out _ _ pbs (by assumption);(first|(have HZS:Ai ws (wA.heap.size) #[.slice none 0 0, .slice none 0 0]:=Ck pbs HZK)|(have HZS:Ai ws (wk.heap.size) #[.slice none 0 0, .slice none 0 0]:=Ck pbs (DY rfl))|skip);have hss:=Ca SWs.2.2.2.2.2.out.2.1;have hps:=pbs.size;(first|(obtain⟨f0,f1⟩:=HZS.free;obtain⟨g0,g1⟩:=HZS.two)|skip);obtain⟨c1,y1,hv1,_⟩:=t1.els.choose_spec.2.row.len;obtain⟨c2,y2,hv2,_⟩:=t2.row.len;subst hv1 hv2;have T1:Hid _:=t1;have T2:Hid _:=t2;clear t1 t2 pbs))
  all_goals
   obtain⟨ub1,ub2,ub3⟩:=SWs.2.2.2.2.2.out
   go_wp2;go_meet
  all_goals
   first
   |exact⟨wk.heap.size,rfl,hkk,c1,c2,y1,y2,W4 HZS ub2 ub3 T1.out T2.out hkk (fun h k=>by rcases k with k|k;(exact .inl k);(exact .inr ⟨by (try simp at k);omega,by (try simp at k);omega⟩))⟩
   |exact⟨wA.heap.size,rfl,hA2,c1,c2,y1,y2,W4 HZS ub2 ub3 T1.out T2.out hA2 (fun h k=>by (try simp at hpk);rcases k with k|k;(exact .inl k);(exact .inr ⟨by (try simp at k);omega,by (try simp at k);omega⟩))⟩
   |exact⟨ws.heap.size,rfl,hss,c1,c2,y1,y2,Ai.start ws _,((Ad.lt T1.out).below (al1 _ _)).mono (fun h k=>by rcases k with⟨k|k,k2⟩;(exact .inl k);(exact .inr ⟨by (try simp at k);omega,by omega⟩)),((Aj.lt T2.out (Ch _).2).below (al1 _ _)).mono (fun h k=>by rcases k with⟨k|k,k2⟩;(exact .inl k);(exact .inr ⟨by (try simp at k);omega,by omega⟩)),ub2.step (al1 _ _),Below.and ub3 (al1 _ _)⟩
 case rest=>
 obtain⟨g,rfl,hg2,e1,e2,p1,p2,b1,t1,t2,b2,b3⟩:=hcut
 clear KO GD ST KA SD SB KS SW1 hA2;have hsx:w.heap.size+2<=wc.heap.size:=Ca b2
 obtain⟨k0,k1⟩:=b1.two
 have K1:Hid _:=KB.out _ _ _ wc t1 t2
 have B2:=hid (b2)
 have B3:=hid (b3)
 clear b1 t1 t2 b2 b3 KB;go_wp2_with fail;refine Calls.mono K1.out ?_
 rintro e w1 ⟨v1,v2,rfl,t1,t2,pb1⟩
 obtain⟨x1,n1,hv1,_⟩:=t1.els.choose_spec.2.row.len
 obtain⟨x2,n2,hv2,_⟩:=t2.row.len
 subst hv1 hv2;have F1:Hid _:=FO.out _ _ _ w1 t1 t2
 have R1:=hid (B2.out.step pb1)
 have B1:=hid (Below.and B3.out pb1)
 have hs1:wc.heap.size<=w1.heap.size:=pb1.size
 clear t1 t2 pb1 K1 FO;go_wp2_with fail;refine Calls.mono F1.out ?_
 rintro e w2 ⟨v1,v2,rfl,t1,t2,pb2⟩
 obtain⟨c1,y1,hv1,_⟩:=t1.els.choose_spec.2.row.len
 obtain⟨c2,y2,hv2,_⟩:=t2.row.len
 subst hv1 hv2;have R2:=R1.out.step pb2
 obtain⟨g0,g1⟩:=R2.two
 obtain⟨g2,g3⟩:=R2.free
 have FIN:Hid (Ad (d+1) (setR w2 (w.heap.size+1) (.slice c1 (Bc BM).1.length y1) (.slice c2 (Bc BM).2.length y2)) (fun h=>F h∨w.heap.size<=h) (.slice c1 (Bc BM).1.length y1) (Bc BM).1/\Aj (setR w2 (w.heap.size+1) (.slice c1 (Bc BM).1.length y1) (.slice c2 (Bc BM).2.length y2)) (fun h=>F h∨w.heap.size<=h) (.slice c2 (Bc BM).2.length y2) (Bc BM).2.length (Ab (Bc BM).2)/\Below w.heap.size w (setR w2 (w.heap.size+1) (.slice c1 (Bc BM).1.length y1) (.slice c2 (Bc BM).2.length y2))/\Ai (setR w2 (w.heap.size+1) (.slice c1 (Bc BM).1.length y1) (.slice c2 (Bc BM).2.length y2)) (w.heap.size+1) #[.slice c1 (Bc BM).1.length y1, .slice c2 (Bc BM).2.length y2]):=by
  have D:∀h,(((F h/\h<w.heap.size)∨(w.heap.size+2<=h/\¬h=g))∨wc.heap.size<=h)∨w1.heap.size<=h->¬h=w.heap.size+1:=fun h hh e=>by rcases hh with((⟨_,hh⟩|⟨hh,_⟩)|hh)|hh<;>omega
  have M1:∀h,(((F h/\h<w.heap.size)∨(w.heap.size+2<=h/\¬h=g))∨wc.heap.size<=h)∨w1.heap.size<=h->F h∨w.heap.size<=h:=fun h hh=>by
   rcases hh with((⟨hh,_⟩|⟨hh,_⟩)|hh)|hh
   ·exact .inl hh
   ·exact .inr (by omega)
   ·exact .inr (by omega)
   ·exact .inr (by omega)
  exact⟨(t1.chg (Av w2 (w.heap.size+1) _ _) (fun h k=>D h k)).mono M1,(t2.chg (Av w2 (w.heap.size+1) _ _) (fun h k=>D h k)).mono M1,((Below.and B1.out pb2).setCell (p:=⟨w.heap.size+1,0,none⟩) (Nat.le_succ _) _).setCell (p:=⟨w.heap.size+1,1,none⟩) (Nat.le_succ _) _,R2.set2 _ _⟩
 clear t1 t2 pb2 R2 F1;go_wp2;have ZZ:=FIN.out.2.2.2.two
 exact bodyPost_ret (v:= .agg #[.slice c1 (Bc BM).1.length y1, .slice c2 (Bc BM).2.length y2]) (by simp[results,Tryz.results33,go_sem,ZZ.1,ZZ.2]) rfl ⟨_,_,rfl,FIN.out.1,FIN.out.2.1,FIN.out.2.2.1⟩

theorem JM:∀d,DrI d
 |0=>fun _ _ _ _ _ _ ht _ _=>ht.elim
 |d+1=>fun F x T lo hi w ht hT hn=>by
  cases hl:T.leaf
  ·by_cases hd:0<d
   ·exact Lq d hd (JM d) F x T lo hi w ht hT hl hn
   ·exfalso
    obtain rfl:d=0:=by omega
    obtain⟨hfo,hseg⟩:=Rt.kids hT hl
    obtain⟨o1,o2,o3,o4,o5,o6⟩:=AW hfo
    obtain⟨-, -, -, -,xs,hx,_,hk⟩:=ht.parts
    exact hk 0 (by have:=o2.1;omega)
  ·rw[An,if_pos hl]
   exact Ln (d+1) F x T w ht hl
end
section
open Go.RowKit

theorem La:∀(m:Nat) (T:Tr) (lo up:Int),AG m T lo up≠0->AG (AG m T lo up) T lo up=AG m T lo up
 |0,_,_,_,h=>absurd rfl h
 |m+1,T,lo,up,h=>by
  cases hl:T.leaf
  ·have hk:=Bm h hl
   have hp:=AW hk.1
   have e:=CD (m:=m) hl hk.1
   have same:∀i,i<T.kids.length->Cu m T lo up i=Cu m T lo up 0:=fun i hi=>by
    rcases Nat.decEq (Cu m T lo up i) (Cu m T lo up 0) with hne|he
    ·exact absurd (e.trans (G0 hi hne)) h
    ·exact he
   have he:=Fi (d:=Cu m T lo up) (n:=T.kids.length) (hk.2 0 (by omega)) same
   rw[e,he,CD hl hk.1]
   have ih:∀i,i<T.kids.length->Cu (Cu m T lo up 0) T lo up i=Cu m T lo up 0:=fun i hi=>by
    have:=La m (AV T i) (CM T lo i) (toT T up i) (hk.2 i hi)
    have s:=same i hi
    unfold Cu at s ⊢
    rw[s] at this
    exact this
   rw[Fi (d:=Cu (Cu m T lo up 0) T lo up) (n:=T.kids.length) (by rw[ih 0 (by omega)];exact hk.2 0 (by omega)) (fun i hi=>by rw[ih i hi,ih 0 (by omega)]),ih 0 (by omega)]
  ·have hp:=Ce h hl
   rw[Cf hl,if_pos hp,Cf hl,if_pos hp]
theorem H0 {T:Tr} (h:okT T=true):AG (Ag T) T 0 1000=Ag T:=by
 refine La 7 T 0 1000 (fun e=> ?_)
 unfold okT at h;have:=of_decide_eq_true h
 unfold Ag at this;omega
theorem Rp (args:Array Value) (w:World):(callFunc 33 args).run Tryz.prog w= .ok (.enter 33 args) w:=by go_simp
theorem Jz (args:Array Value) (w:World):(callFunc 24 args).run Tryz.prog w= .ok (.enter 24 args) w:=by go_simp
theorem GX (args:Array Value) (w:World):(callFunc 23 args).run Tryz.prog w= .ok (.enter 23 args) w:=by go_simp

theorem Q8 (d:Bool) (n:Nat) (hn:7<=n) (x:TV) (T:Tr) (F:Nat->Prop) (w:World) (h:Src d n w F x T) (hs:Az n T<=1048576) (hd:d=false->Az n T<=100000) :
  Calls Tryz.prog 11 #[x.val] w fun e w' =>∃y:TV,e= .returned y.val/\AD n w' (fun g=>w.heap.size<=g) y (Dp T)/\Below w.heap.size w w' :=by
 have HO:Hid (∀u,Below w.heap.size w u->Calls Tryz.prog 9 #[.agg x.cells.toArray] u fun e w' =>e= .returned (.bool (okT T))/\Below u.heap.size u w'):=fun u hu=>BP n x T u (h.2.treeAt.below hu)
 have HC:Hid (∀u,Below w.heap.size w u->Calls Tryz.prog 22 #[.agg x.cells.toArray] u fun e w' =>∃y:TV,e= .returned y.val/\AD n w' (fun g=>u.heap.size<=g) y T/\Below u.heap.size u w'):=fun u hu=>EX d n x T F u (h.below hu) hs hd
 have DR:Hid (okT T=true->∀u,Below w.heap.size w u->Calls Tryz.prog 33 #[.agg x.cells.toArray] u fun e w' =>∃v1 v2,e= .returned (.agg #[v1,v2])/\Ad (Ag T) w' (fun b=>F b∨u.heap.size<=b) v1 (An (Ag T) T).1/\Aj w' (fun b=>F b∨u.heap.size<=b) v2 (An (Ag T) T).2.length (Ab (An (Ag T) T).2)/\Below u.heap.size u w'):=fun hok u hu=>by
  have h7:=Dt hok
  exact JM (Ag T) F x T 0 1000 u (Aq.down h7.1 (h.below hu).2) (H0 hok) (by omega)
 have RT:Hid (okT T=true->∀(u:World) (F' :Nat->Prop) (v1 v2:Value),Ad (Ag T) u F' v1 (An (Ag T) T).1->Aj u F' v2 (An (Ag T) T).2.length (Ab (An (Ag T) T).2)->Calls Tryz.prog 24 #[.agg #[v1,v2]] u fun e w' =>∃x:TV,e= .returned x.val/\Aq ((Ag T)+(An (Ag T) T).1.length) w' (fun b=>F' b∨u.heap.size<=b) x (A0 (An (Ag T) T))/\Below u.heap.size u w'):=fun hok u F' v1 v2 h1 h2=>by
  have h7:=Dt hok
  have hmo:=Fp (Ag T) T h7.1
  have hln:=AY hmo.1.2
  exact JE (Ag T) F' v1 v2 (An (Ag T) T) u h1 h2 hmo.1 (by omega)
 have CE:Hid (okT T=true->∀(u:World) (x1:TV) (F1:Nat->Prop),Below w.heap.size w u->Aq ((Ag T)+(An (Ag T) T).1.length) u F1 x1 (A0 (An (Ag T) T))->Calls Tryz.prog 23 #[x1.val, .agg x.cells.toArray] u fun e w' =>∃y:TV,e= .returned y.val/\AD n w' (fun g=>u.heap.size<=g) y (Dp T)/\Below u.heap.size u w'):=fun hok u x1 F1 hu h1=>by
  have:=Ib d _ n hn x1 x (A0 (An (Ag T) T)) T F1 F u h1 (h.below hu) hs hd
  rw[Dp,if_pos hok]
  exact this
 have I0:=hid (In2.start w x.cells_len)
 show Calls Tryz.prog 11 #[.agg x.cells.toArray] w _
 clear h;generalize x.cells=cs at *
 go_enter Tryz.func11,Tryz.ntmps11
 go_upto_region 1 with fail
 refine Cj (In2 w cs) I0.out ?_
 rintro V IV
 clear I0;have I:=hid IV
 clear IV;go_wp2_with (refine ldT rfl rfl _ rfl w.heap.size rfl cs I.out.t ?_)
 refine Calls.mono (HO.out _ I.out.b) ?_
 rintro e w1 ⟨rfl,b1⟩
 replace I:=hid (I.out.step b1)
 clear b1 HO
 cases hok:okT T
 ·have ED:Dp T=T:=by rw[Dp,if_neg (by rw[hok];decide)]
  go_wp2_with (refine ldT rfl rfl _ rfl w.heap.size rfl cs I.out.t ?_)
  refine Calls.mono (HC.out _ I.out.b) ?_
  rintro e w2 ⟨y,rfl,TY,b2⟩
  obtain⟨f1,f2,f3⟩:=C9 I.out.r (by omega) I.out.b b2 TY
  have R1:=hid (And.intro (I.out.r.step b2) TY.treeF.treeAt.ones)
  have FF:=hid (And.intro f1 (And.intro f2 f3))
  clear f1 f2 f3 TY;go_wp2_with (refine stT rfl rfl _ _ rfl (w.heap.size+1) y rfl rfl R1.out.1 R1.out.2 ?_)
  generalize w2.setCells (w.heap.size+1) 0 y.cells=WF at *
  exact⟨rfl,_,Lm Tryz.results11 _ WF _ y rfl FF.out.1,⟨y,rfl,by rw[ED];exact FF.out.2.1,FF.out.2.2⟩⟩
 ·replace DR:=hid (DR.out hok)
  replace RT:=hid (RT.out hok)
  replace CE:=hid (CE.out hok)
  clear HC;generalize Ag T+(An (Ag T) T).1.length=N1 at *
  generalize A0 (An (Ag T) T)=T1 at *
  generalize An (Ag T) T=MM at *
  generalize Ag T=D at *
  go_wp2_with fail;have KP:=hid (fun u (hu:Ltr w1.drew u)=>I.out.step (Below.and (Below.refl _ w1).drew hu))
  refine AF (fun u=>Bx u w.heap.size cs) [_,_,_,_,_] _ rfl (by kernel_rfl) (by kernel_rfl) ?_
  have hS:=hid (fun u hu=>(KP.out u hu).t)
  have hl:=I.out.t.2
  clear I;generalize w1.drew=wd at *
  refine tk 0 (oi:=⟨_,_,_,_,_,_⟩) (v:= .agg cs.toArray) rfl (by kernel_rfl) (fun _ _ _ h=>h) (yieldsIf_load_mid rfl _ _ rfl w.heap.size 0 rfl cs _ (fun u h=>h.rg) Tryz.underlying29 rfl (BG hl)) (hS.out _ (Ltr.refl _)) ?_
  refine tk 3 (oi:=⟨_,_,_,_,_,_⟩) (v:= .agg cs.toArray) rfl (by kernel_rfl) (fun _ _ _ h=>h) (yieldsIf_load_mid rfl _ _ rfl w.heap.size 0 rfl cs _ (fun u h=>h.rg) Tryz.underlying29 rfl (BG hl)) (hS.out _ (Ltr.refl _)) ?_
  clear hl;simp only[Act.put,sA,sB,sC]
  refine JA [(1,none),(2,none),(4,none)] rfl (by kernel_rfl) hS.out (fun f g hf=>by simp at hf) ?_
  clear hS;refine CW.op (o:=⟨_,_,_,_,_,_⟩) rfl (fun u2 l2 K hK=> ?_)
  refine Be 33 [.tmp 8] #[29] rfl Rp [.agg cs.toArray] rfl (DR.out u2 (KP.out _ l2).b) ?_
  rintro e x2 ⟨v1,v2,rfl,t1,t2,b2⟩
  refine⟨_,rfl,hK.out _ _ b2 ?_⟩
  clear hK K;simp only[Act.put,sA,sB,sC]
  refine CW.op (o:=⟨_,_,_,_,_,_⟩) rfl (fun u3 l3 K hK=> ?_)
  have L3:=l2.trans (Ltr.trans b2 l3)
  refine Be 24 [.tmp 9] #[52] rfl Jz [.agg #[v1,v2]] rfl (RT.out u3 _ _ _ (t1.below l3) (t2.below l3)) ?_
  rintro e x3 ⟨r,rfl,t3,b3⟩
  refine⟨_,rfl,hK.out _ _ b3 ?_⟩
  clear hK K;simp only[Act.put,sA,sB,sC]
  refine CW.op (o:=⟨_,_,_,_,_,_⟩) rfl (fun u4 l4 K hK=> ?_)
  have I4:=KP.out _ (L3.trans (Ltr.trans b3 l4))
  refine Be 23 [.tmp 10, .tmp 11] #[29,29] rfl GX [r.val, .agg cs.toArray] rfl (CE.out u4 _ _ I4.b (t3.below l4)) ?_
  rintro e x4 ⟨y,rfl,TY,b4⟩
  refine⟨_,rfl,hK.out _ _ b4 ?_⟩
  clear hK K;simp only[Act.put,sA,sB,sC]
  refine CW.last (fun u5 l5 K hK=> ?_)
  obtain⟨f1,f2,f3⟩:=C9 I4.r (by omega) I4.b (Below.and b4 l5) (TY.below l5)
  refine wp_store_mid 29 _ _ rfl (w.heap.size+1) 0 y.cells.toArray rfl rfl ((I4.r.step (Below.and b4 l5)).there rfl) (BG y.cells_len) TY.treeF.treeAt.ones (hK.out _ _ ?_)
  have FF:=hid (And.intro f1 (And.intro f2 f3))
  clear hK K f1 f2 f3 TY I4 L3 t1 t2 t3 b2 b3 b4 l2 l3 l4 l5 DR RT CE KP;go_wp2_with fail;exact⟨rfl,_,Lm Tryz.results11 _ _ _ y rfl FF.out.1,⟨y,rfl,FF.out.2.1,FF.out.2.2⟩⟩
end
section
variable {d:Nat} {f:Int->Int × Bool}

theorem Seg.mok {m:TM} {lo hi:Int} (a:Seg d f lo hi m.2 m.1) (hd:0<d):MOk d m:=⟨a.len,fun t ht=>by
 obtain⟨i,hi0,rfl⟩:=List.getElem_of_mem ht
 have e:=(a.at i hi0).1
 have e2:m.1.getD i Ah=m.1[i]:=by simp[List.getD,hi0]
 rw[e2] at e
 have:=Du (m:=d) (T:=m.1[i]) (lo:=frC m.2 lo i) (up:=toC m.2 hi i) (by omega)
 rw[e] at this
 exact this⟩
theorem Rt.root {lo hi:Int}:∀(n d:Nat) (m:TM),Seg d f lo hi m.2 m.1->0<d->m.1.length<=n->∃e,d<=e/\Rt e f lo hi (Bw n m)
 |0,d,m,a,hd,hn=>absurd a.len (by omega)
 |n+1,d,m,a,hd,hn=>by
  have hl:=a.len
  rw[Bw]
  by_cases h:4<m.1.length
  ·rw[if_pos h]
   have hp:=(Fv (a.mok hd) (by omega)).2.2
   obtain⟨e,e1,e2⟩:=Rt.root n (d+1) (Co m) (a.pack hd (by omega)) (by omega) (by omega)
   exact⟨e,by omega,e2⟩
  ·rw[if_neg h]
   by_cases h1:m.1.length=1
   ·rw[if_pos h1]
    have h2:=a.at 0 (by omega)
    have h3:m.2.length=0:=by omega
    have e1:frC m.2 lo 0=lo:=if_pos rfl
    have e2:toC m.2 hi 0=hi:=if_neg (by omega)
    rw[e1,e2] at h2
    exact⟨d,Nat.le_refl _,h2⟩
   ·rw[if_neg h1]
    exact⟨d+1,by omega,Rt.fork0 a hd (by omega) (by omega)⟩
theorem Sw:∀ {d:Nat} {T:Tr},shT d T->2^d<=2*wt d T
 |0,_,h=>h.elim
 |d+1,T,h=>by
  rcases h with⟨h,rfl,_⟩|⟨h1,_,h2,_,_,_,h3⟩
  ·rw[wt,if_pos h];decide
  ·rw[wt,if_neg (by rw[h1];simp)]
   match hk:T.kids with
   |[]=>rw[hk] at h2;simp at h2
   |[_]=>rw[hk] at h2;simp at h2
   |t::u::l=>
    have a:=Sw (h3 t (by rw[hk];simp))
    have b:=Sw (h3 u (by rw[hk];simp))
    simp only[List.map_cons,List.sum_cons]
    rw[Nat.pow_succ]
    omega
theorem Iw:∀ {a b:Nat} {T:Tr},shT a T->shT b T->a=b
 |0,_,_,h,_=>h.elim
 |_+1,0,_,_,h=>h.elim
 |a+1,b+1,T,h,g=>by
  rcases h with⟨h,rfl,_⟩|⟨h1,_,h2,_,_,_,h3⟩
  ·rcases g with⟨_,rfl,_⟩|⟨g1,_⟩
   ·rfl
   ·rw[h] at g1;cases g1
  ·rcases g with⟨g,_⟩|⟨_,_,_,_,_,_,g3⟩
   ·rw[h1] at g;cases g
   ·have:=Iw (h3 _ (Bd (i:=0) (by omega))) (g3 _ (Bd (i:=0) (by omega)))
    omega
theorem I9 {e:Nat} {T:Tr} {lo hi:Int} (h:AG (e+1) T lo hi=e+1) (hl:T.leaf=false) :
  BD T lo hi=true/\0<e/\∀i,i<T.kids.length->AG e (AV T i) (CM T lo i) (toT T hi i)=e:=by
 have hk:=Bm (m:=e) (T:=T) (lo:=lo) (hi:=hi) (by omega) hl
 have h1:=CD (m:=e) hl hk.1
 rw[h] at h1
 have h2:=QG h1.symm
 refine⟨hk.1, ?_,h2⟩
 have h3:=(AW hk.1).2.1.1
 have h4:=hk.2 0 (by omega)
 have h5:=h2 0 (by omega)
 unfold Cu at h5;omega
theorem Lh:∀(e:Nat) (T:Tr) (lo hi:Int),AG e T lo hi=e->0<e->∀n,e<=n->AG n T lo hi=e
 |0,_,_,_,_,h0,_,_=>absurd h0 (by omega)
 |e+1,T,lo,hi,h,_,0,hn=>by omega
 |e+1,T,lo,hi,h,_,n+1,hn=>by
  cases hl:T.leaf
  ·obtain⟨k1,k2,k3⟩:=I9 h hl
   have k4:=(AW k1).2.1.1
   have ih:∀i,i<T.kids.length->Cu n T lo hi i=e:=fun i hi0=>Lh e _ _ _ (k3 i hi0) k2 n (by omega)
   rw[CD hl k1,Fi (by rw[ih 0 (by omega)];omega) (fun i hi0=>by rw[ih i hi0,ih 0 (by omega)]),ih 0 (by omega)]
  ·rw[Cf hl] at h ⊢
   exact h
theorem GU:∀(e:Nat) (T:Tr) (lo hi:Int),AG e T lo hi=e->0<e->∀n,e<=n->∀k,Fe n T k=Fe e T k
 |0,_,_,_,_,h0,_,_,_=>absurd h0 (by omega)
 |e+1,T,lo,hi,h,_,0,hn,_=>by omega
 |e+1,T,lo,hi,h,_,n+1,hn,k=>by
  cases hl:T.leaf
  ·obtain⟨k1,k2,k3⟩:=I9 h hl
   rw[Fg hl,Fg hl]
   have:=GU e _ _ _ (k3 (AN T.cuts k) (PQ k1 k)) k2 n (by omega) k
   show Er (Fe n (AV T (AN T.cuts k)) k) _=Er (Fe e (AV T (AN T.cuts k)) k) _
   rw[this]
  ·rw[Gb hl,Gb hl]

def wtT (T:Tr):Nat:=wt (Ag T) T

theorem Ul {T:Tr} (hok:okT T=true) (hw:wtT T<=120) {o k v:Int} (hm:AK o k v=true) (ho:o≠4) :
  okT (Dq T (o,k,v))=true/\wtT (Dq T (o,k,v))<=wtT T+1/\FE (Dq T (o,k,v))=doL (FE T) (o,k,v):=by
 obtain⟨hsh,hd7,_⟩:=Dt hok
 have hd:=H0 hok
 have hpos:0<Ag T:=by unfold okT at hok;exact of_decide_eq_true hok
 have hin:=CG hm
 have hms:ES 0 1000 [(o,k,v)]:=fun m h=>by
  rw[List.mem_singleton.1 h]
  exact⟨⟨hm,ho⟩,hin.2.1.1,by have:=hin.2.1.2;show k<1000;omega⟩
 have hseg:Seg (Ag T) (fun j=>Er (Fe (Ag T) T j) (ofK [(o,k,v)] j)) 0 1000 (Ae (Ag T) T [(o,k,v)]).2 (Ae (Ag T) T [(o,k,v)]).1:=by
  obtain⟨e,he⟩:∃e,Ag T=e+1:=⟨Ag T-1,by omega⟩
  rw[he] at hd ⊢
  exact Im e T _ 0 1000 hd hms
 obtain⟨e,e1,e2⟩:=Rt.root _ _ _ hseg hpos (Nat.le_refl _)
 have hgr:=(Bh _ _ [(o,k,v)] hsh (by simp)).2
 obtain⟨hmok,hwl⟩:=Bh _ _ [(o,k,v)] hsh (by simp)
 obtain⟨e',_,_,s3,s4⟩:=Ke _ _ _ hmok (Nat.le_refl _)
 change Rt e _ 0 1000 (A0 (Ae (Ag T) T [(o,k,v)])) at e2
 change shT e' (A0 (Ae (Ag T) T [(o,k,v)])) at s3
 change wt e' (A0 (Ae (Ag T) T [(o,k,v)]))<=_ at s4
 simp only[List.length_cons,List.length_nil] at hwl
 have hsh2:shT e (A0 (Ae (Ag T) T [(o,k,v)])):=by
  have:=Du (m:=e) (T:=A0 (Ae (Ag T) T [(o,k,v)])) (lo:=0) (up:=1000) (by rw[e2.1];omega)
  rwa [e2.1] at this
 have hee:e=e' :=Iw hsh2 s3
 subst hee;have hw2:wt e (A0 (Ae (Ag T) T [(o,k,v)]))<=wtT T+1:=Nat.le_trans s4 hwl
 have he7:e<=7:=by
  have h1:=Sw hsh2
  rcases Nat.lt_or_ge 7 e with h|h
  ·have:2^8<=2^e:=Nat.pow_le_pow_right (by decide) h
   omega
  ·exact h
 have hD:Ag (A0 (Ae (Ag T) T [(o,k,v)]))=e:=Lh e _ _ _ e2.1 (by omega) 7 he7
 have hok2:okT (A0 (Ae (Ag T) T [(o,k,v)]))=true:=by
  unfold okT;rw[hD]
  exact decide_eq_true (by omega)
 have hI:Dq T (o,k,v)=A0 (Ae (Ag T) T [(o,k,v)]):=by
  rw[Dq,if_pos ⟨hok,hm,ho⟩,if_pos hok2]
 rw[hI]
 refine⟨hok2,by unfold wtT at hw2 ⊢;rw[hD];exact hw2, ?_⟩
 have m1:=Eb T
 have m2:=Eb (A0 (Ae (Ag T) T [(o,k,v)]))
 refine Ls m2.1 (Kc m1 _).1 fun j=> ?_
 have v1:∀S:Tr,okT S=true->∀j,AE (FE S) j=Fe 7 S j:=fun S h j=>by
  unfold FE;rw[if_pos h]
  exact(Iy (Gd h)).2.2 j
 by_cases hj:0<=j/\j<1000
 ·rw[v1 _ hok2,GU e _ _ _ e2.1 (by omega) 7 he7,e2.2 j hj.1 hj.2]
  have v2:Fe (Ag T) T j=AE (FE T) j:=by
   rw[v1 _ hok,GU _ _ _ _ hd hpos 7 hd7]
  show Er (Fe (Ag T) T j) (ofK [(o,k,v)] j)=_
  rw[v2]
  by_cases hjk:j=k
  ·subst hjk;rw[IX m1]
   simp[ofK,Er]
  ·rw[Ot hjk]
   have:ofK [(o,k,v)] j=[]:=by
    simp only[ofK,List.filter_cons,List.filter_nil]
    rw[if_neg]
    simp only[decide_eq_true_eq]
    omega
   rw[this]
   rfl
 ·rw[Ir,Ir]
  ·intro p hp e;have:=((Kc m1 (o,k,v)).2 p hp).1
   omega
  ·intro p hp e;have:=(m2.2 p hp).1
   omega
end
end Go.Proofs.YtnakaabnjelffaaGreat
