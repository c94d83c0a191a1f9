/-
  What the laws over a tree in and a tree out have in common.
  The walk of the law FnExactDrain.
  What an argument that is a list of pairs holds: opened once into a row of cells.
  What an argument that is a message, or a list of messages, holds.
-/
import Derived.Test.YtcmofojechfccaaGreatOfDrain42
import Derived.Test.YtcmofojechfccaaGreatOfDrain49
import Derived.Test.YtcmofojechfccaaGreatOfDrain51
import Derived.Test.YtcmofojechfccaaGreatOfDrain48
import Derived.Deep.RegionHeld3
import Derived.Test.YtcmofojechfccaaGreatOfDrain1
import Derived.ProofKit
import Derived.Deep.SlicePairs
import Derived.Test.YtcmofojechfccaaGreatOfDrain4
import Derived.Lib.SmallJoins
namespace Go.Proofs.YtcmofojechfccaaGreat
set_option maxRecDepth 100000
set_option maxHeartbeats 8000000
section
open Go.RowKit

def LB (t:TypeId) (u:World) (B:Nat) (A:Array Value):Prop:=u.heap[B]? =some (.cells A t (0,0))
theorem LB.below {t:TypeId} {u u' :World} {B:Nat} {A:Array Value} (h:LB t u B A) (hb:Below u.heap.size u u'):LB t u' B A:=(hb.block _ (Array.getElem?_eq_some_iff.1 h).1).trans h
theorem LB.chg {t:TypeId} {F:Nat->Prop} {u u' :World} {B:Nat} {A:Array Value} (h:LB t u B A) (hc:Chg F u u') (hF:¬F B):LB t u' B A:=row_chg h hc hF
theorem LB.new (t:TypeId) (u:World) (A:Array Value):LB t (u.alloc (.cells A t)) u.heap.size A:=heap_alloc_new _ _
theorem LB.cells {t:TypeId} {u:World} {B:Nat} {A:Array Value} (h:LB t u B A):∀j,u.cell? ⟨B,j,none⟩=A[j]? :=fun _=>cell_of_cells h
theorem LB.lt {t:TypeId} {u:World} {B:Nat} {A:Array Value} (h:LB t u B A):B<u.heap.size:=(Array.getElem?_eq_some_iff.1 h).1

theorem TreeAt.slices {n:Nat} {w:World} {x:TV} {T:Tr} (h:TreeAt n w x T):Slices x:=by
 obtain⟨a1,a2,a3,a4,c1,c2,c3,c4,hx⟩:=h.shape
 subst hx
 exact⟨a1,a2,a3,a4,_,_,_,_,c1,c2,c3,c4,rfl⟩
theorem TreeD.like:∀ {n N:Nat} {w w0:World} {F:Nat->Prop} {x x0:TV} {T:Tr},TreeD N w F x T->TreeAt n w0 x0 T->TreeD n w F x T
 |0,_,_,_,_,_,_,_,_,h=>h.elim
 |_+1,0,_,_,_,_,_,_,h,_=>h.elim
 |n+1,N+1,w,w0,F,x,x0,T,⟨h1,h2,h3,h4,h5,xs,K,k1,k2,k3,k4,k5⟩,⟨_,_,_,_,ys,g5,_,g7⟩=>
  ⟨h1,h2,h3,h4,h5,xs,K,k1,k2,fun i hi=>(k3 i hi).like (g7 i (by omega)),k4,k5⟩
theorem TreeD.fit {n N:Nat} {w w0:World} {F:Nat->Prop} {x x0:TV} {T T' :Tr} (hn:7<=n) (h:TreeD N w F x T') (h0:TreeAt n w0 x0 T) (hT:okT T' =true∨T' =T):TreeD n w F x T' :=by
 rcases hT with hT|hT
 ·have h1:=ok_sh hT
  exact(TreeD.down h1.1 h).le (by omega)
 ·subst hT
  exact h.like h0
theorem size_fit {n:Nat} {w0:World} {x0:TV} {T T' :Tr} (hn:7<=n) (_h0:TreeAt n w0 x0 T) (hs:sizeT n T<=1048576) (hT:okT T' =true∨T' =T):sizeT n T' <=1048576:=by
 rcases hT with hT|hT
 ·have h1:=ok_sh hT
  have h2:=ok_small hT
  rw[sizeT_stable (depthT T') T' h1.1 n (by omega)]
  omega
 ·subst hT
  exact hs
theorem drnF_fit (T:Tr):okT (drnF T)=true∨drnF T=T:=by
 by_cases h:okT T=true
 ·exact .inl (drnF_ok h)
 ·exact .inr (by rw[drnF,if_neg h])
theorem run_toTree (args:Array Value) (w:World):(callFunc 10 args).run Tryz.prog w= .ok (.enter 10 args) w:=by go_simp
theorem run_eqTree (args:Array Value) (w:World):(callFunc 13 args).run Tryz.prog w= .ok (.enter 13 args) w:=by go_simp
def Got (n:Nat) (T2:Tr) (w1:World) (z:TV) (L:Nat) (wx:World):Prop:=
 LB 35 wx L #[.bool z.lf,z.p,z.c,z.k,z.b]/\TreeD n wx (fun g=>w1.heap.size<=g/\¬g=L) z T2/\w1.heap.size<=L/\Below w1.heap.size w1 wx
end
section
open Go.RowKit

theorem fnExactDrain_any (n:Nat) (hn:7<=n) (x:TV) (T:Tr) (w:World) (h:TreeAt n w x T) :
  Calls Tryz.prog 4 #[x.val] w fun e w' =>e= .returned (.bool true)/\Below w.heap.size w w' :=by
 obtain⟨dl,dP,dQ,dR,dS⟩:=x
 obtain⟨d1,d2,d3,d4,d5,d6,d7,d8,d9,da,db,dc,hxd⟩:=h.slices
 simp only[TV.mk.injEq,true_and] at hxd
 obtain⟨hxd1,hxd2,hxd3,hxd4⟩:=hxd
 subst hxd1 hxd2 hxd3 hxd4
 have TT:=hid (h)
 clear h
 have SZ0:=hid (fun u (hu:Below w.heap.size w u)=>szTree_any n (TV.mk dl (.slice d1 d5 d9) (.slice d2 d6 da) (.slice d3 d7 db) (.slice d4 d8 dc)) T 1048576 u (TT.out.below hu) (by omega) (by omega))
 have SB:Hid (Below w.heap.size w (w.alloc (.cells #[.bool dl, .slice d1 d5 d9, .slice d2 d6 da, .slice d3 d7 db, .slice d4 d8 dc] 27))):=al1 _ _
 have B0:Hid (LB 27 (w.alloc (.cells #[.bool dl, .slice d1 d5 d9, .slice d2 d6 da, .slice d3 d7 db, .slice d4 d8 dc] 27)) w.heap.size #[.bool dl, .slice d1 d5 d9, .slice d2 d6 da, .slice d3 d7 db, .slice d4 d8 dc]):=LB.new _ _ _
 have kB0:=B0.out.cells
 show Calls Tryz.prog 4 #[.agg #[.bool dl, .slice d1 d5 d9, .slice d2 d6 da, .slice d3 d7 db, .slice d4 d8 dc]] w _
 by_cases hbig:(sizeT n T:Int)<=1048576
 ·have hs:sizeT n T<=1048576:=by omega
  have SZ:Hid (∀u,Below w.heap.size w u->Calls Tryz.prog 8 #[.agg #[.bool dl, .slice d1 d5 d9, .slice d2 d6 da, .slice d3 d7 db, .slice d4 d8 dc], .int .i64 1048576] u fun e w' =>e= .returned (.int .i64 (1048576-sizeT n T))/\Below u.heap.size u w'):=fun u hu=>by
   have:=SZ0.out u hu
   rw[leftOf_yes hbig] at this
   exact this
  have TO:Hid (∀u,Below w.heap.size w u->Calls Tryz.prog 10 #[.agg #[.bool dl, .slice d1 d5 d9, .slice d2 d6 da, .slice d3 d7 db, .slice d4 d8 dc]] u fun e w' =>∃y:TV,e= .returned y.val/\TreeD n w' (fun g=>u.heap.size<=g) y T/\Below u.heap.size u w'):=fun u hu=>toTreeD_any n (TV.mk dl (.slice d1 d5 d9) (.slice d2 d6 da) (.slice d3 d7 db) (.slice d4 d8 dc)) T u (TT.out.below hu) hs
  have SP:Hid (∀(u:World) (y:TV),TreeAt n u y T->Calls Tryz.prog 16 #[y.val] u fun e w' =>∃z:TV,e= .returned z.val/\TreeD n w' (fun g=>u.heap.size<=g) z (drnF T)/\Below u.heap.size u w'):=fun u y hy=>(specDrain_any n y T u hy (by omega)).mono (fun e w' ⟨z,N,he,hz,hb⟩=>⟨z,he,hz.fit hn TT.out (drnF_fit T),hb⟩)
  have IP:Hid (∀(u:World) (y:TV) (F:Nat->Prop),TreeD n u F y T->Calls Tryz.prog 17 #[y.val] u fun e w' =>∃z:TV,e= .returned z.val/\TreeD n w' (fun g=>u.heap.size<=g) z (drnF T)/\Below u.heap.size u w'):=fun u y F hy=>implDrain_any n hn y T F u hy hs
  have hk1:1+((mkT n T:Nat):Int)<=4194304:=by have:=mkT_le n T;omega
  have hk2:1+((mkT n (drnF T):Nat):Int)<=4194304:=by have:=mkT_le n (drnF T);have:=size_fit hn TT.out hs (drnF_fit T);omega
  generalize drnF T=T2 at *
  have hneg:¬((1048576:Int)-(sizeT n T:Int)<0):=by omega
  generalize ((1048576:Int)-(sizeT n T:Int))=left at *
  generalize hmx:1+((mkT n T:Nat):Int)=mx at *
  have HMX:Hid _:=hmx
  generalize hmg:1+((mkT n T2:Nat):Int)=mg at *
  have HMG:Hid _:=hmg
  have hmx0:¬(mx<0):=by omega
  have hmg0:¬(mg<0):=by omega
  have hmgg:(mg != mg)=false:=by simp
  clear hmx hmg hbig SZ0 hs
  go_enter Tryz.func4,Tryz.ntmps4
  go_wp2_with fail
  generalize (w.alloc (.cells #[.bool dl, .slice d1 d5 d9, .slice d2 d6 da, .slice d3 d7 db, .slice d4 d8 dc] 27))=W at *
  refine(SZ.out _ SB.out).mono ?_
  rintro e w1 ⟨rfl,b1⟩
  clear kB0
  replace SB:=hid (Below.and SB.out b1)
  replace B0:=hid (B0.out.below b1)
  have y1:w.heap.size<w1.heap.size:=B0.out.lt
  clear b1
  have kB0:=B0.out.cells
  go_wp2_with fail
  refine(TO.out _ SB.out).mono ?_
  rintro e w2 ⟨ys,rfl,o2,b2⟩
  clear kB0
  replace SB:=hid (Below.and SB.out b2)
  replace B0:=hid (B0.out.below b2)
  have y2:w1.heap.size<=w2.heap.size:=b2.size
  clear b2
  obtain⟨sl,sP,sQ,sR,sS⟩:=ys
  obtain⟨s1,s2,s3,s4,s5,s6,s7,s8,s9,sa,sb,sc,hxs⟩:=o2.treeF.slices
  simp only[TV.mk.injEq,true_and] at hxs
  obtain⟨hxs1,hxs2,hxs3,hxs4⟩:=hxs
  subst hxs1 hxs2 hxs3 hxs4
  go_wp2_with fail
  refine(SP.out w2 (TV.mk sl (.slice s1 s5 s9) (.slice s2 s6 sa) (.slice s3 s7 sb) (.slice s4 s8 sc)) o2.treeF.treeAt).mono ?_
  rintro e w3 ⟨z,rfl,tw,b3⟩
  replace SB:=hid (Below.and SB.out b3)
  replace B0:=hid (B0.out.below b3)
  have y3:w2.heap.size<=w3.heap.size:=b3.size
  clear b3 o2
  obtain⟨al,aP,aQ,aR,aS⟩:=z
  obtain⟨a1,a2,a3,a4,a5,a6,a7,a8,a9,aa,ab,ac,hxa⟩:=tw.treeF.slices
  simp only[TV.mk.injEq,true_and] at hxa
  obtain⟨hxa1,hxa2,hxa3,hxa4⟩:=hxa
  subst hxa1 hxa2 hxa3 hxa4
  have TW:Hid (TreeD n (w3.alloc (.cells #[.bool al, .slice a1 a5 a9, .slice a2 a6 aa, .slice a3 a7 ab, .slice a4 a8 ac] 35)) (fun g=>w2.heap.size<=g/\g<w3.heap.size) (TV.mk al (.slice a1 a5 a9) (.slice a2 a6 aa) (.slice a3 a7 ab) (.slice a4 a8 ac)) T2):=tw.lt.below (al1 _ _)
  have BW:Hid (LB 35 (w3.alloc (.cells #[.bool al, .slice a1 a5 a9, .slice a2 a6 aa, .slice a3 a7 ab, .slice a4 a8 ac] 35)) w3.heap.size #[.bool al, .slice a1 a5 a9, .slice a2 a6 aa, .slice a3 a7 ab, .slice a4 a8 ac]):=LB.new _ _ _
  replace SB:=hid (Below.and SB.out (al1 w3 (.cells #[.bool al, .slice a1 a5 a9, .slice a2 a6 aa, .slice a3 a7 ab, .slice a4 a8 ac] 35)))
  replace B0:=hid (B0.out.below (al1 w3 (.cells #[.bool al, .slice a1 a5 a9, .slice a2 a6 aa, .slice a3 a7 ab, .slice a4 a8 ac] 35)))
  clear tw
  have kB0:=B0.out.cells
  go_wp2_with fail
  have s4:(w3.alloc (.cells #[.bool al, .slice a1 a5 a9, .slice a2 a6 aa, .slice a3 a7 ab, .slice a4 a8 ac] 35)).heap.size=w3.heap.size+1:=by simp
  generalize (w3.alloc (.cells #[.bool al, .slice a1 a5 a9, .slice a2 a6 aa, .slice a3 a7 ab, .slice a4 a8 ac] 35))=V4 at *
  refine(TO.out _ SB.out).mono ?_
  rintro e w5 ⟨yx,rfl,o5,b5⟩
  clear kB0
  replace SB:=hid (Below.and SB.out b5)
  replace B0:=hid (B0.out.below b5)
  replace TW:=hid (TW.out.below b5)
  replace BW:=hid (BW.out.below b5)
  have y5:V4.heap.size<=w5.heap.size:=b5.size
  clear b5
  obtain⟨xl,xP,xQ,xR,xS⟩:=yx
  obtain⟨x1,x2,x3,x4,x5,x6,x7,x8,x9,xa,xb,xc,hxx⟩:=o5.treeF.slices
  simp only[TV.mk.injEq,true_and] at hxx
  obtain⟨hxx1,hxx2,hxx3,hxx4⟩:=hxx
  subst hxx1 hxx2 hxx3 hxx4
  have TX:Hid (TreeD n (w5.alloc (.cells #[.bool xl, .slice x1 x5 x9, .slice x2 x6 xa, .slice x3 x7 xb, .slice x4 x8 xc] 35)) (fun g=>V4.heap.size<=g/\g<w5.heap.size) (TV.mk xl (.slice x1 x5 x9) (.slice x2 x6 xa) (.slice x3 x7 xb) (.slice x4 x8 xc)) T):=o5.lt.below (al1 _ _)
  have BX:Hid (LB 35 (w5.alloc (.cells #[.bool xl, .slice x1 x5 x9, .slice x2 x6 xa, .slice x3 x7 xb, .slice x4 x8 xc] 35)) w5.heap.size #[.bool xl, .slice x1 x5 x9, .slice x2 x6 xa, .slice x3 x7 xb, .slice x4 x8 xc]):=LB.new _ _ _
  replace SB:=hid (Below.and SB.out (al1 w5 (.cells #[.bool xl, .slice x1 x5 x9, .slice x2 x6 xa, .slice x3 x7 xb, .slice x4 x8 xc] 35)))
  replace B0:=hid (B0.out.below (al1 w5 (.cells #[.bool xl, .slice x1 x5 x9, .slice x2 x6 xa, .slice x3 x7 xb, .slice x4 x8 xc] 35)))
  replace TW:=hid (TW.out.below (al1 w5 (.cells #[.bool xl, .slice x1 x5 x9, .slice x2 x6 xa, .slice x3 x7 xb, .slice x4 x8 xc] 35)))
  replace BW:=hid (BW.out.below (al1 w5 (.cells #[.bool xl, .slice x1 x5 x9, .slice x2 x6 xa, .slice x3 x7 xb, .slice x4 x8 xc] 35)))
  clear o5
  have kBX:=BX.out.cells
  go_wp2_with fail
  have s6:(w5.alloc (.cells #[.bool xl, .slice x1 x5 x9, .slice x2 x6 xa, .slice x3 x7 xb, .slice x4 x8 xc] 35)).heap.size=w5.heap.size+1:=by simp
  generalize (w5.alloc (.cells #[.bool xl, .slice x1 x5 x9, .slice x2 x6 xa, .slice x3 x7 xb, .slice x4 x8 xc] 35))=V6 at *
  refine(IP.out V6 (TV.mk xl (.slice x1 x5 x9) (.slice x2 x6 xa) (.slice x3 x7 xb) (.slice x4 x8 xc)) _ TX.out).mono ?_
  rintro e w7 ⟨z,rfl,tg,b7⟩
  clear kBX
  replace SB:=hid (Below.and SB.out b7)
  replace B0:=hid (B0.out.below b7)
  replace TW:=hid (TW.out.below b7)
  replace BW:=hid (BW.out.below b7)
  replace TX:=hid (TX.out.below b7)
  replace BX:=hid (BX.out.below b7)
  have y7:V6.heap.size<=w7.heap.size:=b7.size
  clear b7
  obtain⟨gl,gP,gQ,gR,gS⟩:=z
  obtain⟨g1,g2,g3,g4,g5,g6,g7,g8,g9,ga,gb,gc,hxg⟩:=tg.treeF.slices
  simp only[TV.mk.injEq,true_and] at hxg
  obtain⟨hxg1,hxg2,hxg3,hxg4⟩:=hxg
  subst hxg1 hxg2 hxg3 hxg4
  have TG:Hid (TreeD n (w7.alloc (.cells #[.bool gl, .slice g1 g5 g9, .slice g2 g6 ga, .slice g3 g7 gb, .slice g4 g8 gc] 35)) (fun g=>V6.heap.size<=g/\g<w7.heap.size) (TV.mk gl (.slice g1 g5 g9) (.slice g2 g6 ga) (.slice g3 g7 gb) (.slice g4 g8 gc)) T2):=tg.lt.below (al1 _ _)
  have BG:Hid (LB 35 (w7.alloc (.cells #[.bool gl, .slice g1 g5 g9, .slice g2 g6 ga, .slice g3 g7 gb, .slice g4 g8 gc] 35)) w7.heap.size #[.bool gl, .slice g1 g5 g9, .slice g2 g6 ga, .slice g3 g7 gb, .slice g4 g8 gc]):=LB.new _ _ _
  replace SB:=hid (Below.and SB.out (al1 w7 (.cells #[.bool gl, .slice g1 g5 g9, .slice g2 g6 ga, .slice g3 g7 gb, .slice g4 g8 gc] 35)))
  replace B0:=hid (B0.out.below (al1 w7 (.cells #[.bool gl, .slice g1 g5 g9, .slice g2 g6 ga, .slice g3 g7 gb, .slice g4 g8 gc] 35)))
  replace TW:=hid (TW.out.below (al1 w7 (.cells #[.bool gl, .slice g1 g5 g9, .slice g2 g6 ga, .slice g3 g7 gb, .slice g4 g8 gc] 35)))
  replace BW:=hid (BW.out.below (al1 w7 (.cells #[.bool gl, .slice g1 g5 g9, .slice g2 g6 ga, .slice g3 g7 gb, .slice g4 g8 gc] 35)))
  replace TX:=hid (TX.out.below (al1 w7 (.cells #[.bool gl, .slice g1 g5 g9, .slice g2 g6 ga, .slice g3 g7 gb, .slice g4 g8 gc] 35)))
  replace BX:=hid (BX.out.below (al1 w7 (.cells #[.bool gl, .slice g1 g5 g9, .slice g2 g6 ga, .slice g3 g7 gb, .slice g4 g8 gc] 35)))
  clear tg
  have kBG:=BG.out.cells
  have kBW:=BW.out.cells
  go_wp2_with fail
  have s8:(w7.alloc (.cells #[.bool gl, .slice g1 g5 g9, .slice g2 g6 ga, .slice g3 g7 gb, .slice g4 g8 gc] 35)).heap.size=w7.heap.size+1:=by simp
  generalize (w7.alloc (.cells #[.bool gl, .slice g1 g5 g9, .slice g2 g6 ga, .slice g3 g7 gb, .slice g4 g8 gc] 35))=V8 at *
  refine Calls.mono (eqTree_any n (TV.mk gl (.slice g1 g5 g9) (.slice g2 g6 ga) (.slice g3 g7 gb) (.slice g4 g8 gc)) (TV.mk al (.slice a1 a5 a9) (.slice a2 a6 aa) (.slice a3 a7 ab) (.slice a4 a8 ac)) T2 _ TG.out.treeF.treeAt TW.out.treeF.treeAt) ?_
  rintro e w9 ⟨rfl,bq⟩
  clear kBG kBW
  replace SB:=hid (Below.and SB.out bq)
  replace B0:=hid (B0.out.below bq)
  replace TW:=hid (TW.out.below bq)
  replace BW:=hid (BW.out.below bq)
  replace TX:=hid (TX.out.below bq)
  replace BX:=hid (BX.out.below bq)
  replace TG:=hid (TG.out.below bq)
  replace BG:=hid (BG.out.below bq)
  clear bq
  go_wp2_with fail
  have KEEP:Hid (∀u,Below w9.heap.size w9 u->(fun u=>(∀j,u.cell? ⟨w.heap.size,j,none⟩= #[.bool dl, .slice d1 d5 d9, .slice d2 d6 da, .slice d3 d7 db, .slice d4 d8 dc][j]?)/\∀j,u.cell? ⟨w5.heap.size,j,none⟩= #[.bool xl, .slice x1 x5 x9, .slice x2 x6 xa, .slice x3 x7 xb, .slice x4 x8 xc][j]?) u):=fun u hu=>⟨(B0.out.below hu).cells,(BX.out.below hu).cells⟩
  have RL:Hid (Below w9.heap.size w9 w9.drew):=(Below.refl _ _).drew
  refine wp_region_held_drew (S:=(fun u=>(∀j,u.cell? ⟨w.heap.size,j,none⟩= #[.bool dl, .slice d1 d5 d9, .slice d2 d6 da, .slice d3 d7 db, .slice d4 d8 dc][j]?)/\∀j,u.cell? ⟨w5.heap.size,j,none⟩= #[.bool xl, .slice x1 x5 x9, .slice x2 x6 xa, .slice x3 x7 xb, .slice x4 x8 xc][j]?)) (by kernel_rfl) (KEEP.out _ RL.out) (fun hH=> ?_)
  refine tk 0 (oi:=⟨_,_,_,_,_,_⟩) (v:= ?_) rfl (by kernel_rfl) (fun _ _ _ h=>h) (Or.inl ⟨by rfl, ?_⟩) (by assumption) ?_
  rotate_left
  ·((intro w hSw;(try dsimp only at hSw);obtain⟨hSa,hSb⟩:=hSw;go_simp);(try with_reducible rfl))
  try simp only[Act.put,sA,sB,sC]
  refine tk 1 (oi:=⟨_,_,_,_,_,_⟩) (v:= ?_) rfl (by kernel_rfl) (fun _ _ _ h=>h) (Or.inl ⟨by rfl, ?_⟩) (by assumption) ?_
  rotate_left
  ·((intro w hSw;(try dsimp only at hSw);obtain⟨hSa,hSb⟩:=hSw;go_simp);(try with_reducible rfl))
  try simp only[Act.put,sA,sB,sC]
  refine wpAnyH_ready (rs:=[2]) (by kernel_rfl) (by simp) ?_
  refine AllReadyH.cons (o:=⟨_,_,_,_,_,_⟩) rfl (fun K hK=> ?_) AllReadyH.nil
  refine(if_pos (show Region.wanted _ _=true by kernel_rfl)).mpr ?_
  refine call_by 10 [.tmp 28] #[27] rfl run_toTree [.agg #[.bool dl, .slice d1 d5 d9, .slice d2 d6 da, .slice d3 d7 db, .slice d4 d8 dc]] rfl (TO.out _ (Below.and SB.out RL.out)) ?_
  rintro e z1 ⟨xe,rfl,oe,be⟩
  replace RL:Hid (Below w9.heap.size w9 z1):=Below.and RL.out be
  have OE:Hid (TreeD n z1 _ xe T):=oe
  clear be oe
  refine⟨_,rfl, ?_⟩
  refine hK.out _ _ (KEEP.out _ RL.out) (fun hH2=> ?_)
  clear hK K hH
  have hH:=hH2
  clear hH2
  try simp only[Act.put,sA,sB,sC]
  refine wpAnyH_ready (rs:=[3]) (by kernel_rfl) (by simp) ?_
  refine AllReadyH.cons (o:=⟨_,_,_,_,_,_⟩) rfl (fun K hK=> ?_) AllReadyH.nil
  refine(if_pos (show Region.wanted _ _=true by kernel_rfl)).mpr ?_
  refine call_by 13 [.tmp 27, .tmp 29] #[35,35] rfl run_eqTree [.agg #[.bool xl, .slice x1 x5 x9, .slice x2 x6 xa, .slice x3 x7 xb, .slice x4 x8 xc],xe.val] rfl (eqTree_any n (TV.mk xl (.slice x1 x5 x9) (.slice x2 x6 xa) (.slice x3 x7 xb) (.slice x4 x8 xc)) xe T _ (TX.out.below RL.out).treeF.treeAt OE.out.treeF.treeAt) ?_
  rintro e z2 ⟨rfl,be⟩
  replace RL:Hid (Below w9.heap.size w9 z2):=Below.and RL.out be
  clear be
  refine⟨_,rfl, ?_⟩
  refine hK.out _ _ (KEEP.out _ RL.out) (fun hH2=> ?_)
  clear hK K hH
  have hH:=hH2
  clear hH2
  try simp only[Act.put,sA,sB,sC]
  refine tk 4 (oi:=⟨_,_,_,_,_,_⟩) (v:= ?_) rfl (by kernel_rfl) (fun _ _ _ h=>h) (Or.inl ⟨by rfl, ?_⟩) (by assumption) ?_
  rotate_left
  ·((intro w hSw;(try dsimp only at hSw);obtain⟨hSa,hSb⟩:=hSw;go_simp);(try with_reducible rfl))
  try simp only[Act.put,sA,sB,sC]
  refine wpAnyH_done (by kernel_rfl) ?_ _
  clear hH OE KEEP
  replace SB:=hid (Below.and SB.out RL.out)
  replace B0:=hid (B0.out.below RL.out)
  replace TW:=hid (TW.out.below RL.out)
  replace BW:=hid (BW.out.below RL.out)
  replace TX:=hid (TX.out.below RL.out)
  replace BX:=hid (BX.out.below RL.out)
  replace TG:=hid (TG.out.below RL.out)
  replace BG:=hid (BG.out.below RL.out)
  clear RL
  generalize z2=w10 at *
  have kBX:=BX.out.cells
  go_wp2_with fail
  refine Calls.mono (markTree_d n (TV.mk xl (.slice x1 x5 x9) (.slice x2 x6 xa) (.slice x3 x7 xb) (.slice x4 x8 xc)) T (fun g=>V4.heap.size<=g/\g<w5.heap.size) 1 w10 TX.out (fun g hg=>by have:=BX.out.lt;omega) (by omega) (by have:=HMX.out;omega)) ?_
  rintro e w11 ⟨rfl,om,cm⟩
  clear kBX
  rw[HMX.out]
  replace SB:=hid (SB.out.trans (cm.below (B:=w.heap.size) (fun g _ hg=>by omega) SB.out.size))
  replace B0:=hid (B0.out.chg cm (by omega))
  replace TW:=hid (TW.out.chg cm (fun g hg h=>by omega))
  replace BW:=hid (BW.out.chg cm (by omega))
  replace BX:=hid (BX.out.chg cm (by omega))
  replace TG:=hid (TG.out.chg cm (fun g hg h=>by omega))
  replace BG:=hid (BG.out.chg cm (by omega))
  clear om cm TX
  have kBG:=BG.out.cells
  have kBW:=BW.out.cells
  go_wp2_with fail
  refine Calls.mono (eqTree_any n (TV.mk gl (.slice g1 g5 g9) (.slice g2 g6 ga) (.slice g3 g7 gb) (.slice g4 g8 gc)) (TV.mk al (.slice a1 a5 a9) (.slice a2 a6 aa) (.slice a3 a7 ab) (.slice a4 a8 ac)) T2 _ TG.out.treeF.treeAt TW.out.treeF.treeAt) ?_
  rintro e w12 ⟨rfl,bq⟩
  clear kBG kBW
  replace SB:=hid (Below.and SB.out bq)
  replace B0:=hid (B0.out.below bq)
  replace TW:=hid (TW.out.below bq)
  replace BW:=hid (BW.out.below bq)
  replace BX:=hid (BX.out.below bq)
  replace TG:=hid (TG.out.below bq)
  replace BG:=hid (BG.out.below bq)
  clear bq
  have kBG:=BG.out.cells
  go_wp2_with fail
  refine Calls.mono (markTree_d n (TV.mk gl (.slice g1 g5 g9) (.slice g2 g6 ga) (.slice g3 g7 gb) (.slice g4 g8 gc)) T2 (fun g=>V6.heap.size<=g/\g<w7.heap.size) 1 w12 TG.out (fun g hg=>by have:=BG.out.lt;omega) (by omega) (by have:=HMG.out;omega)) ?_
  rintro e w13 ⟨rfl,tm13,cm⟩
  clear kBG
  rw[HMG.out]
  replace SB:=hid (SB.out.trans (cm.below (B:=w.heap.size) (fun g _ hg=>by omega) SB.out.size))
  replace B0:=hid (B0.out.chg cm (by omega))
  replace TW:=hid (TW.out.chg cm (fun g hg h=>by omega))
  replace BW:=hid (BW.out.chg cm (by omega))
  replace BX:=hid (BX.out.chg cm (by omega))
  replace BG:=hid (BG.out.chg cm (by omega))
  replace TG:Hid (TreeD n w13 (fun g=>V6.heap.size<=g/\g<w7.heap.size) (TV.mk gl (.slice g1 g5 g9) (.slice g2 g6 ga) (.slice g3 g7 gb) (.slice g4 g8 gc)) (markTr n 1 T2)):=tm13
  clear tm13 cm
  have kBG:=BG.out.cells
  go_wp2_with fail
  refine Calls.mono (heldTree_m n (TV.mk gl (.slice g1 g5 g9) (.slice g2 g6 ga) (.slice g3 g7 gb) (.slice g4 g8 gc)) T2 1 w13 TG.out.treeF.treeAt (by omega) (by have:=HMG.out;omega)) ?_
  rintro e w14 ⟨rfl,bq⟩
  rw[HMG.out]
  clear kBG
  replace SB:=hid (Below.and SB.out bq)
  replace B0:=hid (B0.out.below bq)
  replace TW:=hid (TW.out.below bq)
  replace BW:=hid (BW.out.below bq)
  replace BX:=hid (BX.out.below bq)
  replace BG:=hid (BG.out.below bq)
  replace TG:=hid (TG.out.below bq)
  clear bq
  have kB0:=B0.out.cells
  go_wp2_with fail
  refine(TO.out _ SB.out).mono ?_
  rintro e w15 ⟨yq,rfl,o15,b15⟩
  clear kB0
  replace SB:=hid (Below.and SB.out b15)
  replace B0:=hid (B0.out.below b15)
  replace TW:=hid (TW.out.below b15)
  replace BW:=hid (BW.out.below b15)
  replace BX:=hid (BX.out.below b15)
  replace BG:=hid (BG.out.below b15)
  replace TG:=hid (TG.out.below b15)
  clear b15
  obtain⟨ql,qP,qQ,qR,qS⟩:=yq
  obtain⟨q1,q2,q3,q4,q5,q6,q7,q8,q9,qa,qb,qc,hxq⟩:=o15.treeF.slices
  simp only[TV.mk.injEq,true_and] at hxq
  obtain⟨hxq1,hxq2,hxq3,hxq4⟩:=hxq
  subst hxq1 hxq2 hxq3 hxq4
  go_wp2_with fail
  refine(IP.out w15 (TV.mk ql (.slice q1 q5 q9) (.slice q2 q6 qa) (.slice q3 q7 qb) (.slice q4 q8 qc)) _ o15).mono ?_
  rintro e w16 ⟨z,rfl,th,b16⟩
  replace SB:=hid (Below.and SB.out b16)
  replace B0:=hid (B0.out.below b16)
  replace TW:=hid (TW.out.below b16)
  replace BW:=hid (BW.out.below b16)
  replace BX:=hid (BX.out.below b16)
  replace BG:=hid (BG.out.below b16)
  replace TG:=hid (TG.out.below b16)
  clear b16 o15
  obtain⟨ml,mP,mQ,mR,mS⟩:=z
  obtain⟨m1,m2,m3,m4,m5,m6,m7,m8,m9,ma,mb,mc,hxm⟩:=th.treeF.slices
  simp only[TV.mk.injEq,true_and] at hxm
  obtain⟨hxm1,hxm2,hxm3,hxm4⟩:=hxm
  subst hxm1 hxm2 hxm3 hxm4
  have TH:Hid (TreeD n (w16.alloc (.cells #[.bool ml, .slice m1 m5 m9, .slice m2 m6 ma, .slice m3 m7 mb, .slice m4 m8 mc] 35)) (fun g=>w15.heap.size<=g) (TV.mk ml (.slice m1 m5 m9) (.slice m2 m6 ma) (.slice m3 m7 mb) (.slice m4 m8 mc)) T2):=th.below (al1 _ _)
  have BH:Hid (LB 35 (w16.alloc (.cells #[.bool ml, .slice m1 m5 m9, .slice m2 m6 ma, .slice m3 m7 mb, .slice m4 m8 mc] 35)) w16.heap.size #[.bool ml, .slice m1 m5 m9, .slice m2 m6 ma, .slice m3 m7 mb, .slice m4 m8 mc]):=LB.new _ _ _
  replace SB:=hid (Below.and SB.out (al1 w16 (.cells #[.bool ml, .slice m1 m5 m9, .slice m2 m6 ma, .slice m3 m7 mb, .slice m4 m8 mc] 35)))
  replace B0:=hid (B0.out.below (al1 w16 (.cells #[.bool ml, .slice m1 m5 m9, .slice m2 m6 ma, .slice m3 m7 mb, .slice m4 m8 mc] 35)))
  replace TW:=hid (TW.out.below (al1 w16 (.cells #[.bool ml, .slice m1 m5 m9, .slice m2 m6 ma, .slice m3 m7 mb, .slice m4 m8 mc] 35)))
  replace BW:=hid (BW.out.below (al1 w16 (.cells #[.bool ml, .slice m1 m5 m9, .slice m2 m6 ma, .slice m3 m7 mb, .slice m4 m8 mc] 35)))
  replace BX:=hid (BX.out.below (al1 w16 (.cells #[.bool ml, .slice m1 m5 m9, .slice m2 m6 ma, .slice m3 m7 mb, .slice m4 m8 mc] 35)))
  replace BG:=hid (BG.out.below (al1 w16 (.cells #[.bool ml, .slice m1 m5 m9, .slice m2 m6 ma, .slice m3 m7 mb, .slice m4 m8 mc] 35)))
  replace TG:=hid (TG.out.below (al1 w16 (.cells #[.bool ml, .slice m1 m5 m9, .slice m2 m6 ma, .slice m3 m7 mb, .slice m4 m8 mc] 35)))
  clear th
  have kBH:=BH.out.cells
  have kBW:=BW.out.cells
  go_wp2_with fail
  generalize (w16.alloc (.cells #[.bool ml, .slice m1 m5 m9, .slice m2 m6 ma, .slice m3 m7 mb, .slice m4 m8 mc] 35))=V17 at *
  refine Calls.mono (eqTree_any n (TV.mk ml (.slice m1 m5 m9) (.slice m2 m6 ma) (.slice m3 m7 mb) (.slice m4 m8 mc)) (TV.mk al (.slice a1 a5 a9) (.slice a2 a6 aa) (.slice a3 a7 ab) (.slice a4 a8 ac)) T2 _ TH.out.treeF.treeAt TW.out.treeF.treeAt) ?_
  rintro e w18 ⟨rfl,bq⟩
  clear kBH kBW
  replace SB:=hid (Below.and SB.out bq)
  replace B0:=hid (B0.out.below bq)
  replace TW:=hid (TW.out.below bq)
  replace BW:=hid (BW.out.below bq)
  replace BX:=hid (BX.out.below bq)
  replace BG:=hid (BG.out.below bq)
  replace TG:=hid (TG.out.below bq)
  clear bq TH BH
  have kBG:=BG.out.cells
  go_wp2_with fail
  refine Calls.mono (heldTree_m n (TV.mk gl (.slice g1 g5 g9) (.slice g2 g6 ga) (.slice g3 g7 gb) (.slice g4 g8 gc)) T2 1 w18 TG.out.treeF.treeAt (by omega) (by have:=HMG.out;omega)) ?_
  rintro e w19 ⟨rfl,bq⟩
  rw[HMG.out]
  clear kBG
  replace SB:=hid (Below.and SB.out bq)
  replace B0:=hid (B0.out.below bq)
  replace TW:=hid (TW.out.below bq)
  replace BW:=hid (BW.out.below bq)
  replace BX:=hid (BX.out.below bq)
  replace BG:=hid (BG.out.below bq)
  replace TG:=hid (TG.out.below bq)
  clear bq
  go_wp2
  go_ret
  exact⟨rfl,SB.out⟩
 ·have SZ:Hid (∀u,Below w.heap.size w u->Calls Tryz.prog 8 #[.agg #[.bool dl, .slice d1 d5 d9, .slice d2 d6 da, .slice d3 d7 db, .slice d4 d8 dc], .int .i64 1048576] u fun e w' =>e= .returned (.int .i64 (-1))/\Below u.heap.size u w'):=fun u hu=>by
   have:=SZ0.out u hu
   rw[leftOf_no hbig] at this
   exact this
  clear hbig SZ0
  go_enter Tryz.func4,Tryz.ntmps4
  go_wp2_with fail
  generalize (w.alloc (.cells #[.bool dl, .slice d1 d5 d9, .slice d2 d6 da, .slice d3 d7 db, .slice d4 d8 dc] 27))=W at *
  refine(SZ.out _ SB.out).mono ?_
  rintro e w1 ⟨rfl,b1⟩
  go_wp2
  go_ret
  exact⟨rfl,Below.and SB.out b1⟩
end
section
open Go.ChangeShapes Go.WideShapes Go.ChangeAt Go.RowKit Go.Deep

theorem Tryz.own:ownKnob Tryz.prog.godebug=none:=by kernel_rfl
theorem Tryz.laidOut:laidOutB Tryz.prog=true:=by kernel_rfl
theorem Tryz.cells111:Tryz.prog.cellsOf 111=2:=by kernel_rfl
theorem Tryz.cells3:Tryz.prog.cellsOf 3=1:=by kernel_rfl
end
section
open Go.ChangeShapes Go.WideShapes Go.ChangeAt Go.RowKit Go.Deep Go.Joins

theorem Tryz.cells29:Tryz.prog.cellsOf 29=3:=by kernel_rfl

theorem flatM_all (l:ML) (g:Nat->Option Value) (h:∀i,i<l.length->g (i*3)=some (.int .i64 (mO l i))/\g (i*3+1)=some (.int .i64 (mK l i))/\g (i*3+2)=some (.int .i64 (mV l i))) :
  ∀j u,(flatM l)[j]? =some u->g j=some u:=by
 intro j u hj
 have hjl:=(List.getElem?_eq_some_iff.1 hj).1
 rw[flatM_length] at hjl
 have hi:j/3<l.length:=by omega
 have hat:=flatM_at l (j/3) hi
 have hc:=h (j/3) hi
 rcases(show j%3=0∨j%3=1∨j%3=2 by omega) with h0|h0|h0
 ·have e:j/3*3=j:=by omega
  rw[e] at hat hc
  rw[hc.1, ← hat.1,hj]
 ·have e:j/3*3+1=j:=by omega
  rw[e] at hat hc
  rw[hc.2.1, ← hat.2.1,hj]
 ·have e:j/3*3+2=j:=by omega
  rw[e] at hat hc
  rw[hc.2.2, ← hat.2.2,hj]
end
end Go.Proofs.YtcmofojechfccaaGreat
