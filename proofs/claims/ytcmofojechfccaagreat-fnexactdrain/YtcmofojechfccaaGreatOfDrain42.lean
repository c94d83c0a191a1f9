/-
  What the model's Inject and Drain make of a tree, as plain functions.
  Trees that are right are small; the program's copyOfEither.
  The contract of the program's give, for a leaf.
  Contracts of the program's messages behind their interface: key and msg, whatever message it is.
-/
import Derived.Test.YtcmofojechfccaaGreatOfDrain24
import Derived.Test.YtcmofojechfccaaGreatOfDrain41
import Derived.Test.YtcmofojechfccaaGreatOfDrain40
import Derived.Test.YtcmofojechfccaaGreatOfDrain9
import Derived.Test.YtcmofojechfccaaGreatOfDrain15
import Derived.Test.YtcmofojechfccaaGreatOfDrain30
import Derived.Test.YtcmofojechfccaaGreatOfDrain35
import Derived.Test.YtcmofojechfccaaGreatOfDrain37
import Derived.Test.YtcmofojechfccaaGreatOfDrain11
import Derived.Test.YtcmofojechfccaaGreatOfDrain14
namespace Go.Proofs.YtcmofojechfccaaGreat
set_option maxRecDepth 100000
set_option maxHeartbeats 8000000
section
open Go.RowKit

def rootOf (g:TM):Tr:=rootM g.1.length g
def injF (T:Tr) (m:Int × Int × Int):Tr:=
 if okT T=true/\msgOkB m.1 m.2.1 m.2.2=true/\¬m.1=4 then (if okT (rootOf (giveM (depthT T) T [m]))=true then rootOf (giveM (depthT T) T [m]) else T) else T
def drnF (T:Tr):Tr:=if okT T=true then (if okT (rootOf (drainM (depthT T) T))=true then rootOf (drainM (depthT T) T) else T) else T

theorem ok_sh {T:Tr} (h:okT T=true):shT (depthT T) T/\depthT T<=7/\wt (depthT T) T+2<=49152:=by
 have h0:depthT T≠0:=by
  unfold okT at h
  have:=of_decide_eq_true h
  omega
 have h1:shT (depthT T) T:=sh_of_depth h0
 have h2:depthT T<=7:=depthF_le _ _ _ _
 refine⟨h1,h2,Nat.le_trans (wt_le _ _ h1) ?_⟩
 have:4^depthT T<=4^7:=Nat.pow_le_pow_right (by decide) h2
 omega

theorem sizeT_stable:∀(e:Nat) (T:Tr),shT e T->∀n,e<=n->sizeT n T=sizeT e T
 |0,_,h,_,_=>h.elim
 |e+1,T,h,n,hn=>by
  cases n with
  |zero=>omega
  |succ n=>
   have hk:T.kids.map (sizeT n)=T.kids.map (sizeT e):=by
    rcases h with⟨_,_,_,_,h,_⟩|⟨_,_,_,_,_,_,h⟩
    ·rw[h];rfl
    ·exact List.map_congr_left fun t ht=>sizeT_stable e t (h t ht) n (by omega)
   show T.pairs.length+(T.cuts.length+(T.kids.length+(T.kids.map (sizeT n)).sum+T.buf.length))=T.pairs.length+(T.cuts.length+(T.kids.length+(T.kids.map (sizeT e)).sum+T.buf.length))
   rw[hk]
theorem sh_size {e:Nat} {T:Tr} (h:shT e T) {n:Nat} (hn:e<=n):sizeT n T<=7*wt e T:=by
 rw[sizeT_stable e T h n hn]
 have:=size_wt e T h
 omega
theorem TreeD.down:∀ {e n:Nat} {w:World} {F:Nat->Prop} {x:TV} {T:Tr},shT e T->TreeD n w F x T->TreeD e w F x T
 |0,_,_,_,_,_,h,_=>h.elim
 |_+1,0,_,_,_,_,_,h=>h.elim
 |e+1,n+1,w,F,x,T,hs,⟨h1,h2,h3,h4,h5,xs,K,k1,k2,k3,k4,k5⟩=>by
  refine⟨h1,h2,h3,h4,h5,xs,K,k1,k2,fun i hi=> ?_,k4,k5⟩
  rcases hs with⟨_,_,_,_,h,_⟩|⟨_,_,_,_,_,_,h⟩
  ·rw[k1,h] at hi;exact absurd hi (Nat.not_lt_zero _)
  ·exact TreeD.down (h _ (getD_mem (by omega))) (k3 i hi)

theorem drain_root {d:Nat} {T:Tr} (hs:shT d T):∃e,e<=d+(drainM d T).1.length/\shT e (rootOf (drainM d T))/\wt e (rootOf (drainM d T))<=wt d T:=by
 obtain⟨h1,h2⟩:=drainM_ok d T hs
 obtain⟨e,_,e2,e3,e4⟩:=rootM_ok _ d (drainM d T) h1 (Nat.le_refl _)
 exact⟨e,e2,e3,Nat.le_trans e4 h2⟩
theorem drnF_ok {T:Tr} (h:okT T=true):okT (drnF T)=true:=by
 rw[drnF,if_pos h]
 split
 ·assumption
 ·exact h
end
section
open Go.RowKit

theorem sum_le4:∀(ts:List Tr) (f:Tr->Nat) (b:Nat),(∀t∈ts,f t<=b)->(ts.map f).sum<=ts.length*b
 |[],_,_,_=>by simp
 |t::ts,f,b,h=>by
  have h1:=sum_le4 ts f b (fun t' ht' =>h t' (List.mem_cons_of_mem _ ht'))
  have h2:=h t (List.mem_cons_self ..)
  simp only[List.map_cons,List.sum_cons,List.length_cons]
  rw[Nat.succ_mul]
  omega
theorem sh_small:∀(e:Nat) (T:Tr),shT e T->12*sizeT e T+52<=25*4^e
 |0,_,h=>h.elim
 |e+1,T,h=>by
  show 12*(T.pairs.length+(T.cuts.length+(T.kids.length+(T.kids.map (sizeT e)).sum+T.buf.length)))+52<=_
  have hp:4^(e+1)=4*4^e:=by rw[Nat.pow_succ];omega
  rcases h with⟨_,rfl,h1,h2,h3,h4⟩|⟨_,h1,h2,h3,h4,h5,h6⟩
  ·rw[h2,h3,h4]
   simp
   omega
  ·rw[h1,hp]
   have hk:=sum_le4 T.kids (fun t=>12*sizeT e t+52) (25*4^e) (fun t ht=>sh_small e t (h6 t ht))
   have hm:(T.kids.map (fun t=>12*sizeT e t+52)).sum=12*(T.kids.map (sizeT e)).sum+52*T.kids.length:=by
    generalize T.kids=ts
    induction ts with
    |nil=>rfl
    |cons t ts ih=>
     simp only[List.map_cons,List.sum_cons,List.length_cons]
     omega
   have h0:=sh_small e (T.kids[0]'(by omega)) (h6 _ (List.getElem_mem _))
   simp only[List.length_nil]
   generalize 4^e=P at *
   generalize (T.kids.map (sizeT e)).sum=S at *
   generalize (T.kids.map (fun t=>12*sizeT e t+52)).sum=S2 at *
   generalize sizeT e (T.kids[0]'(by omega))=S4 at *
   generalize T.kids.length=k at *
   rcases(by omega:k=2∨k=3∨k=4) with rfl|rfl|rfl<;>omega
theorem ok_small {T:Tr} (h:okT T=true):sizeT (depthT T) T<=34129:=by
 have h1:=ok_sh h
 have h2:=sh_small _ _ h1.1
 have:4^depthT T<=4^7:=Nat.pow_le_pow_right (by decide) h1.2.1
 have h7:(4:Nat)^7=16384:=by decide
 omega
theorem TreeF.down:∀ {e n:Nat} {w:World} {F:Nat->Prop} {x:TV} {T:Tr},shT e T->TreeF n w F x T->TreeF e w F x T
 |0,_,_,_,_,_,h,_=>h.elim
 |_+1,0,_,_,_,_,_,h=>h.elim
 |e+1,n+1,w,F,x,T,hs,⟨h1,h2,h3,h4,xs,h5,h6,h7⟩=>by
  refine⟨h1,h2,h3,h4,xs,h5,h6,fun i hi=> ?_⟩
  rcases hs with⟨_,_,_,_,h,_⟩|⟨_,_,_,_,_,_,h⟩
  ·rw[h5,h] at hi;exact absurd hi (Nat.not_lt_zero _)
  ·exact TreeF.down (h _ (getD_mem (by omega))) (h7 i hi)
theorem copyOk_any (n m:Nat) (hm:7<=m) (x:TV) (T:Tr) (F:Nat->Prop) (w:World) (ht:TreeF n w F x T) (hok:okT T=true) :
  Calls Tryz.prog 52 #[x.val] w fun e w' =>∃y:TV,e= .returned y.val/\TreeD m w' (fun g=>w.heap.size<=g) y T/\Below w.heap.size w w' :=by
 have h1:=ok_sh hok
 have h2:=ok_small hok
 exact(copyOfTree_any false (depthT T) x T F w ⟨(fun e=>by cases e),TreeF.down h1.1 ht⟩ (by omega) (fun _=>by omega)).mono (fun e w' ⟨y,he,hy,hb⟩=>⟨y,he,hy.le (by omega),hb⟩)

theorem copyOfEither_any (n1 n:Nat) (hn:7<=n) (x1 x:TV) (T1 T:Tr) (F1 F:Nat->Prop) (w:World) (h1:TreeF n1 w F1 x1 T1) (h:TreeD n w F x T) (hs:sizeT n T<=1048576) :
  Calls Tryz.prog 53 #[x1.val,x.val] w fun e w' =>∃y:TV,e= .returned y.val/\TreeD n w' (fun g=>w.heap.size<=g) y (if okT T1=true then T1 else T)/\Below w.heap.size w w' :=by
 obtain⟨al,aP,aQ,aR,aS⟩:=x1
 obtain⟨a1,a2,a3,a4,a5,a6,a7,a8,a9,aa,ab,ac,hxa⟩:=h1.slices
 simp only[TV.mk.injEq,true_and] at hxa
 obtain⟨hxa1,hxa2,hxa3,hxa4⟩:=hxa
 subst hxa1 hxa2 hxa3 hxa4
 obtain⟨dl,dP,dQ,dR,dS⟩:=x
 obtain⟨d1,d2,d3,d4,d5,d6,d7,d8,d9,da,db,dc,hxd⟩:=h.treeF.slices
 simp only[TV.mk.injEq,true_and] at hxd
 obtain⟨hxd1,hxd2,hxd3,hxd4⟩:=hxd
 subst hxd1 hxd2 hxd3 hxd4
 have OK:Hid (∀u,Below w.heap.size w u->Calls Tryz.prog 50 #[.agg #[.bool al, .slice a1 a5 a9, .slice a2 a6 aa, .slice a3 a7 ab, .slice a4 a8 ac]] u fun e w' =>e= .returned (.bool (okT T1))/\Below u.heap.size u w'):=fun u hu=>implTreeOk_any n1 (TV.mk al (.slice a1 a5 a9) (.slice a2 a6 aa) (.slice a3 a7 ab) (.slice a4 a8 ac)) T1 u (h1.treeAt.below hu)
 have C1:Hid (okT T1=true->∀u,Below w.heap.size w u->Calls Tryz.prog 52 #[.agg #[.bool al, .slice a1 a5 a9, .slice a2 a6 aa, .slice a3 a7 ab, .slice a4 a8 ac]] u fun e w' =>∃y:TV,e= .returned y.val/\TreeD n w' (fun g=>u.heap.size<=g) y T1/\Below u.heap.size u w'):=fun hok u hu=>copyOk_any n1 n hn (TV.mk al (.slice a1 a5 a9) (.slice a2 a6 aa) (.slice a3 a7 ab) (.slice a4 a8 ac)) T1 F1 u (h1.below hu) hok
 have C2:Hid (∀u,Below w.heap.size w u->Calls Tryz.prog 52 #[.agg #[.bool dl, .slice d1 d5 d9, .slice d2 d6 da, .slice d3 d7 db, .slice d4 d8 dc]] u fun e w' =>∃y:TV,e= .returned y.val/\TreeD n w' (fun g=>u.heap.size<=g) y T/\Below u.heap.size u w'):=fun u hu=>copyOfTree_any true n (TV.mk dl (.slice d1 d5 d9) (.slice d2 d6 da) (.slice d3 d7 db) (.slice d4 d8 dc)) T F u ⟨fun _=>h.below hu,(h.below hu).treeF⟩ hs (fun e=>by cases e)
 have BW:Hid (Below w.heap.size w (((w.alloc (.cells #[.bool al, .slice a1 a5 a9, .slice a2 a6 aa, .slice a3 a7 ab, .slice a4 a8 ac] 35)).alloc (.cells #[.bool dl, .slice d1 d5 d9, .slice d2 d6 da, .slice d3 d7 db, .slice d4 d8 dc] 35)).alloc (.cells #[.bool false, .slice none 0 0, .slice none 0 0, .slice none 0 0, .slice none 0 0] 35))/\BoxT (((w.alloc (.cells #[.bool al, .slice a1 a5 a9, .slice a2 a6 aa, .slice a3 a7 ab, .slice a4 a8 ac] 35)).alloc (.cells #[.bool dl, .slice d1 d5 d9, .slice d2 d6 da, .slice d3 d7 db, .slice d4 d8 dc] 35)).alloc (.cells #[.bool false, .slice none 0 0, .slice none 0 0, .slice none 0 0, .slice none 0 0] 35)) (w.heap.size) #[.bool al, .slice a1 a5 a9, .slice a2 a6 aa, .slice a3 a7 ab, .slice a4 a8 ac]/\BoxT (((w.alloc (.cells #[.bool al, .slice a1 a5 a9, .slice a2 a6 aa, .slice a3 a7 ab, .slice a4 a8 ac] 35)).alloc (.cells #[.bool dl, .slice d1 d5 d9, .slice d2 d6 da, .slice d3 d7 db, .slice d4 d8 dc] 35)).alloc (.cells #[.bool false, .slice none 0 0, .slice none 0 0, .slice none 0 0, .slice none 0 0] 35)) (w.heap.size+1) #[.bool dl, .slice d1 d5 d9, .slice d2 d6 da, .slice d3 d7 db, .slice d4 d8 dc]/\BoxT (((w.alloc (.cells #[.bool al, .slice a1 a5 a9, .slice a2 a6 aa, .slice a3 a7 ab, .slice a4 a8 ac] 35)).alloc (.cells #[.bool dl, .slice d1 d5 d9, .slice d2 d6 da, .slice d3 d7 db, .slice d4 d8 dc] 35)).alloc (.cells #[.bool false, .slice none 0 0, .slice none 0 0, .slice none 0 0, .slice none 0 0] 35)) (w.heap.size+1+1) #[.bool false, .slice none 0 0, .slice none 0 0, .slice none 0 0, .slice none 0 0]):=by
  have e:∀(x:World) (o:Obj),(x.alloc o).heap.size=x.heap.size+1:=fun x o=>by simp
  refine⟨Below.and (al1 _ _) (Below.and (al1 _ _) (al1 _ _)),((BoxT.start w _).step (al1 _ _)).step (al1 _ _), ?_, ?_⟩
  ·have:=(BoxT.start (w.alloc (.cells #[.bool al, .slice a1 a5 a9, .slice a2 a6 aa, .slice a3 a7 ab, .slice a4 a8 ac] 35)) #[.bool dl, .slice d1 d5 d9, .slice d2 d6 da, .slice d3 d7 db, .slice d4 d8 dc]).step (al1 _ (.cells #[.bool false, .slice none 0 0, .slice none 0 0, .slice none 0 0, .slice none 0 0] 35))
   rw[e] at this
   exact this
  ·have:=BoxT.start ((w.alloc (.cells #[.bool al, .slice a1 a5 a9, .slice a2 a6 aa, .slice a3 a7 ab, .slice a4 a8 ac] 35)).alloc (.cells #[.bool dl, .slice d1 d5 d9, .slice d2 d6 da, .slice d3 d7 db, .slice d4 d8 dc] 35)) #[.bool false, .slice none 0 0, .slice none 0 0, .slice none 0 0, .slice none 0 0]
   rw[e,e] at this
   exact this
 clear h1 h
 show Calls Tryz.prog 53 #[.agg #[.bool al, .slice a1 a5 a9, .slice a2 a6 aa, .slice a3 a7 ab, .slice a4 a8 ac], .agg #[.bool dl, .slice d1 d5 d9, .slice d2 d6 da, .slice d3 d7 db, .slice d4 d8 dc]] w _
 obtain⟨_,q1,q2,q3⟩:=BW.out
 have c1:=q1.cells
 clear q1 q2 q3
 by_cases hok:okT T1=true
 ·rw[if_pos hok]
  rw[hok] at OK
  go_enter Tryz.func53,Tryz.ntmps53
  go_wp2_with fail
  generalize (((w.alloc (.cells #[.bool al, .slice a1 a5 a9, .slice a2 a6 aa, .slice a3 a7 ab, .slice a4 a8 ac] 35)).alloc (.cells #[.bool dl, .slice d1 d5 d9, .slice d2 d6 da, .slice d3 d7 db, .slice d4 d8 dc] 35)).alloc (.cells #[.bool false, .slice none 0 0, .slice none 0 0, .slice none 0 0, .slice none 0 0] 35))=W0 at *
  refine(OK.out _ BW.out.1).mono ?_
  rintro e w1 ⟨rfl,b1⟩
  obtain⟨p0,p1,p2,p3⟩:=BW.out
  have BX:Hid (Below w.heap.size w w1/\BoxT w1 (w.heap.size) #[.bool al, .slice a1 a5 a9, .slice a2 a6 aa, .slice a3 a7 ab, .slice a4 a8 ac]/\BoxT w1 (w.heap.size+1) #[.bool dl, .slice d1 d5 d9, .slice d2 d6 da, .slice d3 d7 db, .slice d4 d8 dc]/\BoxT w1 (w.heap.size+1+1) #[.bool false, .slice none 0 0, .slice none 0 0, .slice none 0 0, .slice none 0 0]):=⟨Below.and p0 b1,p1.step b1,p2.step b1,p3.step b1⟩
  clear p0 p1 p2 p3 b1 BW c1
  have c1:=BX.out.2.1.cells
  have hlt:=BX.out.2.2.2.lt
  go_wp2_with fail
  refine(C1.out hok _ BX.out.1).mono ?_
  rintro e w2 ⟨y,rfl,ty,b2⟩
  have bz:BoxT w2 (w.heap.size+1+1) #[.bool false, .slice none 0 0, .slice none 0 0, .slice none 0 0, .slice none 0 0]:=BX.out.2.2.2.step b2
  have bw:=Below.and BX.out.1 b2
  clear BX c1 OK C1 C2 b2
  obtain⟨yl,yP,yQ,yR,yS⟩:=y
  obtain⟨y1,y2,y3,y4,y5,y6,y7,y8,y9,ya,yb,yc,hxy⟩:=ty.treeF.slices
  simp only[TV.mk.injEq,true_and] at hxy
  obtain⟨hxy1,hxy2,hxy3,hxy4⟩:=hxy
  subst hxy1 hxy2 hxy3 hxy4
  have z8c:=bz.cells
  have z9:=bz.free
  have Z0:=(bz.set5 (.bool yl) (.slice y1 y5 y9) (.slice y2 y6 ya) (.slice y3 y7 yb) (.slice y4 y8 yc)).cells
  have FIN:Hid (TreeD n (setT w2 (w.heap.size+1+1) (.bool yl) (.slice y1 y5 y9) (.slice y2 y6 ya) (.slice y3 y7 yb) (.slice y4 y8 yc)) (fun g=>w.heap.size<=g) (TV.mk yl (.slice y1 y5 y9) (.slice y2 y6 ya) (.slice y3 y7 yb) (.slice y4 y8 yc)) T1/\Below w.heap.size w (setT w2 (w.heap.size+1+1) (.bool yl) (.slice y1 y5 y9) (.slice y2 y6 ya) (.slice y3 y7 yb) (.slice y4 y8 yc))):=
   ⟨(ty.chg (chg_setT w2 (w.heap.size+1+1) _ _ _ _ _) (fun g hg e=>by omega)).mono (fun g hg=>by omega),setT_below bw (by omega) _ _ _ _ _⟩
  have HZ2:Hid _:=Z0
  clear Z0 ty
  go_wp2
  have Z:=HZ2.out
  refine bodyPost_ret (v:= .agg #[.bool yl, .slice y1 y5 y9, .slice y2 y6 ya, .slice y3 y7 yb, .slice y4 y8 yc]) (by simp[results,Tryz.results53,go_sem,Z]) rfl ⟨(TV.mk yl (.slice y1 y5 y9) (.slice y2 y6 ya) (.slice y3 y7 yb) (.slice y4 y8 yc)),rfl,FIN.out.1,FIN.out.2⟩
 ·have hok2:okT T1=false:=by simpa using hok
  rw[if_neg hok]
  rw[hok2] at OK
  go_enter Tryz.func53,Tryz.ntmps53
  go_wp2_with fail
  generalize (((w.alloc (.cells #[.bool al, .slice a1 a5 a9, .slice a2 a6 aa, .slice a3 a7 ab, .slice a4 a8 ac] 35)).alloc (.cells #[.bool dl, .slice d1 d5 d9, .slice d2 d6 da, .slice d3 d7 db, .slice d4 d8 dc] 35)).alloc (.cells #[.bool false, .slice none 0 0, .slice none 0 0, .slice none 0 0, .slice none 0 0] 35))=W0 at *
  refine(OK.out _ BW.out.1).mono ?_
  rintro e w1 ⟨rfl,b1⟩
  obtain⟨p0,p1,p2,p3⟩:=BW.out
  have BX:Hid (Below w.heap.size w w1/\BoxT w1 (w.heap.size) #[.bool al, .slice a1 a5 a9, .slice a2 a6 aa, .slice a3 a7 ab, .slice a4 a8 ac]/\BoxT w1 (w.heap.size+1) #[.bool dl, .slice d1 d5 d9, .slice d2 d6 da, .slice d3 d7 db, .slice d4 d8 dc]/\BoxT w1 (w.heap.size+1+1) #[.bool false, .slice none 0 0, .slice none 0 0, .slice none 0 0, .slice none 0 0]):=⟨Below.and p0 b1,p1.step b1,p2.step b1,p3.step b1⟩
  clear p0 p1 p2 p3 b1 BW c1
  have c1:=BX.out.2.2.1.cells
  have hlt:=BX.out.2.2.2.lt
  go_wp2_with fail
  refine(C2.out _ BX.out.1).mono ?_
  rintro e w2 ⟨y,rfl,ty,b2⟩
  have bz:BoxT w2 (w.heap.size+1+1) #[.bool false, .slice none 0 0, .slice none 0 0, .slice none 0 0, .slice none 0 0]:=BX.out.2.2.2.step b2
  have bw:=Below.and BX.out.1 b2
  clear BX c1 OK C1 C2 b2
  obtain⟨yl,yP,yQ,yR,yS⟩:=y
  obtain⟨y1,y2,y3,y4,y5,y6,y7,y8,y9,ya,yb,yc,hxy⟩:=ty.treeF.slices
  simp only[TV.mk.injEq,true_and] at hxy
  obtain⟨hxy1,hxy2,hxy3,hxy4⟩:=hxy
  subst hxy1 hxy2 hxy3 hxy4
  have z8c:=bz.cells
  have z9:=bz.free
  have Z0:=(bz.set5 (.bool yl) (.slice y1 y5 y9) (.slice y2 y6 ya) (.slice y3 y7 yb) (.slice y4 y8 yc)).cells
  have FIN:Hid (TreeD n (setT w2 (w.heap.size+1+1) (.bool yl) (.slice y1 y5 y9) (.slice y2 y6 ya) (.slice y3 y7 yb) (.slice y4 y8 yc)) (fun g=>w.heap.size<=g) (TV.mk yl (.slice y1 y5 y9) (.slice y2 y6 ya) (.slice y3 y7 yb) (.slice y4 y8 yc)) T/\Below w.heap.size w (setT w2 (w.heap.size+1+1) (.bool yl) (.slice y1 y5 y9) (.slice y2 y6 ya) (.slice y3 y7 yb) (.slice y4 y8 yc))):=
   ⟨(ty.chg (chg_setT w2 (w.heap.size+1+1) _ _ _ _ _) (fun g hg e=>by omega)).mono (fun g hg=>by omega),setT_below bw (by omega) _ _ _ _ _⟩
  have HZ2:Hid _:=Z0
  clear Z0 ty
  go_wp2
  have Z:=HZ2.out
  refine bodyPost_ret (v:= .agg #[.bool yl, .slice y1 y5 y9, .slice y2 y6 ya, .slice y3 y7 yb, .slice y4 y8 yc]) (by simp[results,Tryz.results53,go_sem,Z]) rfl ⟨(TV.mk yl (.slice y1 y5 y9) (.slice y2 y6 ya) (.slice y3 y7 yb) (.slice y4 y8 yc)),rfl,FIN.out.1,FIN.out.2⟩
end
section
open Go.RowKit

theorem giveLeaf_any (F:Nat->Prop) (y:TV) (T:Tr) (vm:Value) (ms:ML) (w:World) (ht:TreeF 1 w F y T) (hm:Row w vm ms.length (flatM ms)) (hl:T.leaf=true) (hn:T.pairs.length+ms.length<=1000000) :
  Calls Tryz.prog 55 #[y.val,vm] w fun e w' =>∃v1 v2,e= .returned (.agg #[v1,v2])/\TreesF 1 w' (fun b=>F b∨w.heap.size<=b) v1 (leafM (allL T.pairs ms)).1/\RowF w' (fun b=>F b∨w.heap.size<=b) v2 (leafM (allL T.pairs ms)).2.length (flatI (leafM (allL T.pairs ms)).2)/\Below w.heap.size w w' :=by
 obtain⟨r1,r2,r3,r4,s1,s2,s3,s4,hy⟩:=ht.treeAt.shape
 obtain⟨a5,q5,hvm,_⟩:=hm.len
 obtain⟨-,hp, -, -, -⟩:=ht.parts
 rw[hy] at hp ⊢
 simp only at hp
 rw[hl]
 subst hvm
 have hlen:=allL_length T.pairs ms
 have MA:Hid (∀w1,Below w.heap.size w w1->Calls Tryz.prog 115 #[.slice r1 T.pairs.length s1, .slice a5 ms.length q5] w1 _):=fun w1 hb=>implMapAll_any (.slice r1 T.pairs.length s1) (.slice a5 ms.length q5) T.pairs ms w1 (hp.row.below hb) (hm.below hb) (by omega)
 show Calls Tryz.prog 55 #[.agg #[.bool true, .slice r1 T.pairs.length s1, .slice r2 T.cuts.length s2, .slice r3 T.kids.length s3, .slice r4 T.buf.length s4], .slice a5 ms.length q5] w _
 clear hm hp ht hy
 generalize T.cuts.length=z2 at *
 generalize T.kids.length=z3 at *
 generalize T.buf.length=z4 at *
 generalize allL T.pairs ms=AL at *
 generalize T.pairs.length=z1 at *
 generalize ms.length=nm at *
 have LV:Hid (∀w1 (v:Value),w1.ownsRow (w.heap.size+2) 108 2 v AL.length (flatP AL)->Calls Tryz.prog 114 #[v] w1 _):=fun w1 v o=>leavesOf_any (fun g=>v.ownBlock=some g) v AL w1 (RowF.of_owns o) (by omega)
 have hs:∀A B e f,((w.alloc (.cells A e)).alloc (.cells B f)).heap.size=w.heap.size+2:=fun A B e f=>by simp
 go_enter Tryz.func55,Tryz.ntmps55
 go_wp2_with fail
 refine Calls.mono (MA.out _ (al2 _ _ _)) ?_
 rintro e w1 ⟨v1,rfl,o1,b1⟩
 rw[hs] at o1 b1
 have X1:Hid (BoxR w1 (w.heap.size+1) #[.slice none 0 0, .slice none 0 0]):=(b1.block (w.heap.size+1) (by simp)).trans (by have:=heap_alloc_new (w.alloc (.cells #[.bool true, .slice r1 z1 s1, .slice r2 z2 s2, .slice r3 z3 s3, .slice r4 z4 s4] 35)) (.cells #[.slice none 0 0, .slice none 0 0] 96);simpa using this)
 have BW:Hid (Below w.heap.size w w1):=Below.and (al2 _ _ _) (by rw[hs];exact b1)
 have hs1:w.heap.size+2<=w1.heap.size:=by have:=b1.size;rw[hs] at this;exact this
 obtain⟨a6,q6,hv1,_⟩:=(RowF.of_owns o1).row.len
 subst hv1
 have OL:Hid (∀h,(Value.slice a6 AL.length q6).ownBlock=some h->w.heap.size+2<=h/\h<w1.heap.size):=fun h k=>World.ownsRow.lt o1 h k
 have LC:Hid _:=LV.out w1 _ o1
 clear o1 b1 LV MA
 go_wp2_with fail
 refine Calls.mono LC.out ?_
 rintro e w2 ⟨v1,v2,rfl,t1,t2,b2⟩
 obtain⟨c1,y1,hv1,_⟩:=t1.els.choose_spec.2.row.len
 obtain⟨c2,y2,hv2,_⟩:=t2.row.len
 subst hv1 hv2
 have X2:=X1.out.step b2
 obtain⟨g0,g1⟩:=X2.two
 obtain⟨g2,g3⟩:=X2.free
 have FIN:Hid (TreesF 1 (setR w2 (w.heap.size+1) (.slice c1 (leafM AL).1.length y1) (.slice c2 (leafM AL).2.length y2)) (fun b=>F b∨w.heap.size<=b) (.slice c1 (leafM AL).1.length y1) (leafM AL).1/\RowF (setR w2 (w.heap.size+1) (.slice c1 (leafM AL).1.length y1) (.slice c2 (leafM AL).2.length y2)) (fun b=>F b∨w.heap.size<=b) (.slice c2 (leafM AL).2.length y2) (leafM AL).2.length (flatI (leafM AL).2)/\Below w.heap.size w (setR w2 (w.heap.size+1) (.slice c1 (leafM AL).1.length y1) (.slice c2 (leafM AL).2.length y2))/\BoxR (setR w2 (w.heap.size+1) (.slice c1 (leafM AL).1.length y1) (.slice c2 (leafM AL).2.length y2)) (w.heap.size+1) #[.slice c1 (leafM AL).1.length y1, .slice c2 (leafM AL).2.length y2]):=by
  have D:∀h,(Value.slice a6 AL.length q6).ownBlock=some h∨w1.heap.size<=h->¬h=w.heap.size+1:=fun h hh e=>by
   rcases hh with hh|hh
   ·have:=OL.out h hh;omega
   ·omega
  have M1:∀h,(Value.slice a6 AL.length q6).ownBlock=some h∨w1.heap.size<=h->F h∨w.heap.size<=h:=fun h hh=>by
   rcases hh with hh|hh
   ·have:=OL.out h hh;exact .inr (by omega)
   ·exact .inr (by omega)
  exact⟨(t1.chg (chg_setR w2 (w.heap.size+1) _ _) (fun h k=>D h k)).mono M1,(t2.chg (chg_setR w2 (w.heap.size+1) _ _) (fun h k=>D h k)).mono M1,((Below.and BW.out b2).setCell (p:=⟨w.heap.size+1,0,none⟩) (Nat.le_succ _) _).setCell (p:=⟨w.heap.size+1,1,none⟩) (Nat.le_succ _) _,X2.set2 _ _⟩
 clear t1 t2 b2 X2 LC
 go_wp2
 have ZZ:=FIN.out.2.2.2.two
 exact bodyPost_ret (v:= .agg #[.slice c1 (leafM AL).1.length y1, .slice c2 (leafM AL).2.length y2]) (by simp[results,Tryz.results55,go_sem,ZZ.1,ZZ.2]) rfl ⟨_,_,rfl,FIN.out.1,FIN.out.2.1,FIN.out.2.2.1⟩
end
section
open Go.RowKit

theorem meth_key_99 (k v:Int) (w:World):(method 383 220 (.agg #[.int .i64 k, .int .i64 v]) "loop.example/g00234/impl.key").run Tryz.prog w= .ok (241, .agg #[.int .i64 k, .int .i64 v]) w:=by kernel_rfl
theorem enter_105 (x:Value) (w:World):(callFunc 241 #[x]).run Tryz.prog w= .ok (.enter 241 #[x]) w:=by kernel_rfl
theorem meth_msg_99 (k v:Int) (w:World):(method 383 220 (.agg #[.int .i64 k, .int .i64 v]) "loop.example/g00234/impl.msg").run Tryz.prog w= .ok (242, .agg #[.int .i64 k, .int .i64 v]) w:=by kernel_rfl
theorem enter_106 (x:Value) (w:World):(callFunc 242 #[x]).run Tryz.prog w= .ok (.enter 242 #[x]) w:=by kernel_rfl
theorem key_99 (k v:Int) (w:World):Calls Tryz.prog 241 #[.agg #[.int .i64 k, .int .i64 v]] w fun e w' =>e= .returned (.int .i64 k)/\Below w.heap.size w w' :=by
 go_enter Tryz.func241,Tryz.ntmps241
 go_wp2
 go_ret
 exact⟨rfl,(Below.refl _ _).alloc (Nat.le_refl _) _⟩
theorem msg_99 (k v:Int) (w:World):Calls Tryz.prog 242 #[.agg #[.int .i64 k, .int .i64 v]] w fun e w' =>e= .returned (.agg #[.int .i64 1, .int .i64 k, .int .i64 v])/\Below w.heap.size w w' :=by
 go_enter Tryz.func242,Tryz.ntmps242
 go_wp2
 refine bodyPost_ret (v:= .agg #[.int .i64 1, .int .i64 k, .int .i64 v]) (by simp[results,Tryz.results242,go_sem]) rfl ⟨rfl, ?_⟩
 exact((Below.refl _ _).alloc (Nat.le_refl _) _).alloc (by simp) _
theorem meth_key_101 (k v:Int) (w:World):(method 383 224 (.agg #[.int .i64 k, .int .i64 v]) "loop.example/g00234/impl.key").run Tryz.prog w= .ok (245, .agg #[.int .i64 k, .int .i64 v]) w:=by kernel_rfl
theorem enter_107 (x:Value) (w:World):(callFunc 245 #[x]).run Tryz.prog w= .ok (.enter 245 #[x]) w:=by kernel_rfl
theorem meth_msg_101 (k v:Int) (w:World):(method 383 224 (.agg #[.int .i64 k, .int .i64 v]) "loop.example/g00234/impl.msg").run Tryz.prog w= .ok (246, .agg #[.int .i64 k, .int .i64 v]) w:=by kernel_rfl
theorem enter_108 (x:Value) (w:World):(callFunc 246 #[x]).run Tryz.prog w= .ok (.enter 246 #[x]) w:=by kernel_rfl
theorem key_101 (k v:Int) (w:World):Calls Tryz.prog 245 #[.agg #[.int .i64 k, .int .i64 v]] w fun e w' =>e= .returned (.int .i64 k)/\Below w.heap.size w w' :=by
 go_enter Tryz.func245,Tryz.ntmps245
 go_wp2
 go_ret
 exact⟨rfl,(Below.refl _ _).alloc (Nat.le_refl _) _⟩
theorem msg_101 (k v:Int) (w:World):Calls Tryz.prog 246 #[.agg #[.int .i64 k, .int .i64 v]] w fun e w' =>e= .returned (.agg #[.int .i64 3, .int .i64 k, .int .i64 v])/\Below w.heap.size w w' :=by
 go_enter Tryz.func246,Tryz.ntmps246
 go_wp2
 refine bodyPost_ret (v:= .agg #[.int .i64 3, .int .i64 k, .int .i64 v]) (by simp[results,Tryz.results246,go_sem]) rfl ⟨rfl, ?_⟩
 exact((Below.refl _ _).alloc (Nat.le_refl _) _).alloc (by simp) _
theorem meth_key_105 (k:Int) (w:World):(method 383 222 (.agg #[.int .i64 k]) "loop.example/g00234/impl.key").run Tryz.prog w= .ok (243, .agg #[.int .i64 k]) w:=by kernel_rfl
theorem enter_109 (x:Value) (w:World):(callFunc 243 #[x]).run Tryz.prog w= .ok (.enter 243 #[x]) w:=by kernel_rfl
theorem meth_msg_105 (k:Int) (w:World):(method 383 222 (.agg #[.int .i64 k]) "loop.example/g00234/impl.msg").run Tryz.prog w= .ok (244, .agg #[.int .i64 k]) w:=by kernel_rfl
theorem enter_110 (x:Value) (w:World):(callFunc 244 #[x]).run Tryz.prog w= .ok (.enter 244 #[x]) w:=by kernel_rfl
theorem key_105 (k:Int) (w:World):Calls Tryz.prog 243 #[.agg #[.int .i64 k]] w fun e w' =>e= .returned (.int .i64 k)/\Below w.heap.size w w' :=by
 go_enter Tryz.func243,Tryz.ntmps243
 go_wp2
 go_ret
 exact⟨rfl,(Below.refl _ _).alloc (Nat.le_refl _) _⟩
theorem msg_105 (k:Int) (w:World):Calls Tryz.prog 244 #[.agg #[.int .i64 k]] w fun e w' =>e= .returned (.agg #[.int .i64 2, .int .i64 k, .int .i64 0])/\Below w.heap.size w w' :=by
 go_enter Tryz.func244,Tryz.ntmps244
 go_wp2
 refine bodyPost_ret (v:= .agg #[.int .i64 2, .int .i64 k, .int .i64 0]) (by simp[results,Tryz.results244,go_sem]) rfl ⟨rfl, ?_⟩
 exact((Below.refl _ _).alloc (Nat.le_refl _) _).alloc (by simp) _
theorem meth_key_107 (k:Int) (w:World):(method 383 226 (.agg #[.int .i64 k]) "loop.example/g00234/impl.key").run Tryz.prog w= .ok (247, .agg #[.int .i64 k]) w:=by kernel_rfl
theorem enter_111 (x:Value) (w:World):(callFunc 247 #[x]).run Tryz.prog w= .ok (.enter 247 #[x]) w:=by kernel_rfl
theorem meth_msg_107 (k:Int) (w:World):(method 383 226 (.agg #[.int .i64 k]) "loop.example/g00234/impl.msg").run Tryz.prog w= .ok (248, .agg #[.int .i64 k]) w:=by kernel_rfl
theorem enter_112 (x:Value) (w:World):(callFunc 248 #[x]).run Tryz.prog w= .ok (.enter 248 #[x]) w:=by kernel_rfl
theorem key_107 (k:Int) (w:World):Calls Tryz.prog 247 #[.agg #[.int .i64 k]] w fun e w' =>e= .returned (.int .i64 k)/\Below w.heap.size w w' :=by
 go_enter Tryz.func247,Tryz.ntmps247
 go_wp2
 go_ret
 exact⟨rfl,(Below.refl _ _).alloc (Nat.le_refl _) _⟩
theorem msg_107 (k:Int) (w:World):Calls Tryz.prog 248 #[.agg #[.int .i64 k]] w fun e w' =>e= .returned (.agg #[.int .i64 4, .int .i64 k, .int .i64 0])/\Below w.heap.size w w' :=by
 go_enter Tryz.func248,Tryz.ntmps248
 go_wp2
 refine bodyPost_ret (v:= .agg #[.int .i64 4, .int .i64 k, .int .i64 0]) (by simp[results,Tryz.results248,go_sem]) rfl ⟨rfl, ?_⟩
 exact((Below.refl _ _).alloc (Nat.le_refl _) _).alloc (by simp) _

structure Chd (m:Int × Int × Int) (t:TypeId) (x:Value) (f g:FuncId):Prop where
 enc:encC m= .iface t x
 hk:∀w,(method 383 t x "loop.example/g00234/impl.key").run Tryz.prog w= .ok (f,x) w
 ek:∀w,(callFunc f #[x]).run Tryz.prog w= .ok (.enter f #[x]) w
 ck:∀w,Calls Tryz.prog f #[x] w fun e w' =>e= .returned (.int .i64 m.2.1)/\Below w.heap.size w w'
 hm:∀w,(method 383 t x "loop.example/g00234/impl.msg").run Tryz.prog w= .ok (g,x) w
 em:∀w,(callFunc g #[x]).run Tryz.prog w= .ok (.enter g #[x]) w
 cm:∀w,Calls Tryz.prog g #[x] w fun e w' =>e= .returned (.agg #[.int .i64 m.1, .int .i64 m.2.1, .int .i64 m.2.2])/\Below w.heap.size w w'
 t99:∃z,∀w,(Instr.typeAssert (.iface t x) 195 220 true).run Tryz.prog w= .ok (.tuple #[z, .bool (m.1==1)]) w
 t105:∃z,∀w,(Instr.typeAssert (.iface t x) 195 222 true).run Tryz.prog w= .ok (.tuple #[z, .bool (m.1==2)]) w
 t107:∃z,∀w,(Instr.typeAssert (.iface t x) 195 226 true).run Tryz.prog w= .ok (.tuple #[z, .bool (m.1==4)]) w

theorem okM_v0 {k v:Int} {o:Int} (ho:o=2∨o=4) (h:okM (o,k,v)=true):v=0:=by
 have h' :msgOkB o k v=true:=h
 simp only[msgOkB,Bool.and_eq_true,Bool.or_eq_true,beq_iff_eq] at h'
 omega

theorem chd_of {m:Int × Int × Int} (h:okM m=true):∃t x f g,Chd m t x f g:=by
 obtain⟨o,k,v⟩:=m
 have ho:=(msgOkB_in h).1
 rcases(show o=1∨o=2∨o=3∨o=4 from by simp only at ho;omega) with rfl|rfl|rfl|rfl
 ·exact⟨220,_,241,242,rfl,meth_key_99 k v,enter_105 _,key_99 k v,meth_msg_99 k v,enter_106 _,msg_99 k v,⟨_,ta_99_99 k v⟩,⟨_,ta_99_105 k v⟩,⟨_,ta_99_107 k v⟩⟩
 ·have hv:=okM_v0 (Or.inl rfl) h
  subst hv
  exact⟨222,_,243,244,rfl,meth_key_105 k,enter_109 _,key_105 k,meth_msg_105 k,enter_110 _,msg_105 k,⟨_,ta_105_99 k⟩,⟨_,ta_105_105 k⟩,⟨_,ta_105_107 k⟩⟩
 ·exact⟨224,_,245,246,rfl,meth_key_101 k v,enter_107 _,key_101 k v,meth_msg_101 k v,enter_108 _,msg_101 k v,⟨_,ta_101_99 k v⟩,⟨_,ta_101_105 k v⟩,⟨_,ta_101_107 k v⟩⟩
 ·have hv:=okM_v0 (Or.inr rfl) h
  subst hv
  exact⟨226,_,247,248,rfl,meth_key_107 k,enter_111 _,key_107 k,meth_msg_107 k,enter_112 _,msg_107 k,⟨_,ta_107_99 k⟩,⟨_,ta_107_105 k⟩,⟨_,ta_107_107 k⟩⟩

theorem Row.changes {w:World} {v:Value} {l:ML} (h:Row w v l.length (l.map encC)) :
  ∃(a:Option Addr) (b off cap:Nat),v= .slice a l.length cap/\l.length<=cap/\cap<=maxLen/\(0<l.length->a=some ⟨b,off,none⟩)/\(∀i,i<l.length->w.cell? ⟨b,off+i,none⟩=some (encC (mO l i,mK l i,mV l i))):=by
 obtain⟨a,b,off,cap,h1,h2,h3,h4,h5,_⟩:=h
 exact⟨a,b,off,cap,h1,h2,h3,h4,fun i hi=>h5 _ _ (by rw[List.getElem?_map,List.getElem?_eq_getElem hi,ml_at l i hi];rfl)⟩
end
end Go.Proofs.YtcmofojechfccaaGreat
