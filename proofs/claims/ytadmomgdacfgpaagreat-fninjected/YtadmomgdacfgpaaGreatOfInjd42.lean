/-
  The program's Inject.
  A range over a function whose iterator makes memory and calls others between two rounds: what the caller's rounds and the iterator owe each other, said by the caller's own blocks; and the law of the statement.
-/
import Derived.Test.YtadmomgdacfgpaaGreatOfInjd38
import Derived.Test.YtadmomgdacfgpaaGreatOfInjd41
import Derived.Test.YtadmomgdacfgpaaGreatOfInjd1
import Derived.RangeFuncNested
import Derived.RangeFuncLeaves
import Derived.OwnWalkIn
import Derived.TacticsInMore
import Derived.LoopNIn
import Derived.LoopIn
namespace Go.Proofs.YtadmomgdacfgpaaGreat
set_option maxRecDepth 100000
set_option maxHeartbeats 8000000
section
open Go.RowKit

theorem Va (args:Array Value) (w:World):(callFunc 31 args).run Tryz.prog w= .ok (.enter 31 args) w:=by go_simp
def Fo (u:World) (B:Nat) (A:Array Value):Prop:=u.heap[B]? =some (.cells A 35 (0,0))
theorem Fo.start (w:World) (A:Array Value):Fo (w.alloc (.cells A 35)) w.heap.size A:=heap_alloc_new w _
theorem Fo.step {u w' :World} {B:Nat} {A:Array Value} (h:Fo u B A) (hb:Below u.heap.size u w'):Fo w' B A:=(hb.block B (Array.getElem?_eq_some_iff.1 h).1).trans h
theorem Fo.cells {u:World} {B:Nat} {A:Array Value} (h:Fo u B A):∀j,u.cell? ⟨B,j,none⟩=A[j]? :=fun j=>cell_of_row u B j A 35 (0,0) h
theorem Fo.chg {w w' :World} {L:Nat} {A:Array Value} {p:Nat->Prop} (h:Fo w L A) (hc:Chg p w w') (hp:¬p L):Fo w' L A:=(hc.block L (Array.getElem?_eq_some_iff.1 h).1 hp).trans h

theorem Kr (n:Nat) (hn:7<=n) (x:TV) (T:Tr) (F:Nat->Prop) (o k v:Int) (w:World) (h:AD n w F x T) (hs:AU n T<=1048576) :
  Calls Tryz.prog 9 #[x.val, .agg #[.int .i64 o, .int .i64 k, .int .i64 v]] w fun e w' =>∃y:TV,e= .returned y.val/\AD n w' (fun g=>w.heap.size<=g) y (Du T (o,k,v))/\Below w.heap.size w w' :=by
 obtain⟨dl,dP,dQ,dR,dS⟩:=x
 obtain⟨d1,d2,d3,d4,d5,d6,d7,d8,d9,da,db,dc,hxd⟩:=h.treeF.slices
 simp only[TV.mk.injEq,true_and] at hxd
 obtain⟨hxd1,hxd2,hxd3,hxd4⟩:=hxd
 subst hxd1 hxd2 hxd3 hxd4;have OK:=hid (fun u (hu:Below w.heap.size w u)=>Es n (TV.mk dl (.slice d1 d5 d9) (.slice d2 d6 da) (.slice d3 d7 db) (.slice d4 d8 dc)) T u (h.treeF.treeAt.below hu))
 have OM:=hid (fun u=>CQ o k v u)
 have C2:=hid (fun u (hu:Below w.heap.size w u)=>FP true n (TV.mk dl (.slice d1 d5 d9) (.slice d2 d6 da) (.slice d3 d7 db) (.slice d4 d8 dc)) T F u ⟨fun _=>h.below hu,(h.below hu).treeF⟩ hs (fun e=>by cases e))
 have BW:Hid (Below w.heap.size w (((w.alloc (.cells #[.bool dl, .slice d1 d5 d9, .slice d2 d6 da, .slice d3 d7 db, .slice d4 d8 dc] 30)).alloc (.cells #[.int .i64 o, .int .i64 k, .int .i64 v] 35)).alloc (.cells #[.bool false, .slice none 0 0, .slice none 0 0, .slice none 0 0, .slice none 0 0] 30))/\A8 (((w.alloc (.cells #[.bool dl, .slice d1 d5 d9, .slice d2 d6 da, .slice d3 d7 db, .slice d4 d8 dc] 30)).alloc (.cells #[.int .i64 o, .int .i64 k, .int .i64 v] 35)).alloc (.cells #[.bool false, .slice none 0 0, .slice none 0 0, .slice none 0 0, .slice none 0 0] 30)) (w.heap.size) #[.bool dl, .slice d1 d5 d9, .slice d2 d6 da, .slice d3 d7 db, .slice d4 d8 dc]/\Fo (((w.alloc (.cells #[.bool dl, .slice d1 d5 d9, .slice d2 d6 da, .slice d3 d7 db, .slice d4 d8 dc] 30)).alloc (.cells #[.int .i64 o, .int .i64 k, .int .i64 v] 35)).alloc (.cells #[.bool false, .slice none 0 0, .slice none 0 0, .slice none 0 0, .slice none 0 0] 30)) (w.heap.size+1) #[.int .i64 o, .int .i64 k, .int .i64 v]/\A8 (((w.alloc (.cells #[.bool dl, .slice d1 d5 d9, .slice d2 d6 da, .slice d3 d7 db, .slice d4 d8 dc] 30)).alloc (.cells #[.int .i64 o, .int .i64 k, .int .i64 v] 35)).alloc (.cells #[.bool false, .slice none 0 0, .slice none 0 0, .slice none 0 0, .slice none 0 0] 30)) (w.heap.size+1+1) #[.bool false, .slice none 0 0, .slice none 0 0, .slice none 0 0, .slice none 0 0]):=by
  have e:∀(x:World) (o:Obj),(x.alloc o).heap.size=x.heap.size+1:=fun x o=>by simp
  refine⟨Below.and (al1 _ _) (Below.and (al1 _ _) (al1 _ _)),((A8.start w _).step (al1 _ _)).step (al1 _ _), ?_, ?_⟩
  ·have:=(Fo.start (w.alloc (.cells #[.bool dl, .slice d1 d5 d9, .slice d2 d6 da, .slice d3 d7 db, .slice d4 d8 dc] 30)) #[.int .i64 o, .int .i64 k, .int .i64 v]).step (al1 _ (.cells #[.bool false, .slice none 0 0, .slice none 0 0, .slice none 0 0, .slice none 0 0] 30))
   rw[e] at this
   exact this
  ·have:=A8.start ((w.alloc (.cells #[.bool dl, .slice d1 d5 d9, .slice d2 d6 da, .slice d3 d7 db, .slice d4 d8 dc] 30)).alloc (.cells #[.int .i64 o, .int .i64 k, .int .i64 v] 35)) #[.bool false, .slice none 0 0, .slice none 0 0, .slice none 0 0, .slice none 0 0]
   rw[e,e] at this
   exact this
 have HH:Hid _:=h
 clear h;show Calls Tryz.prog 9 #[.agg #[.bool dl, .slice d1 d5 d9, .slice d2 d6 da, .slice d3 d7 db, .slice d4 d8 dc], .agg #[.int .i64 o, .int .i64 k, .int .i64 v]] w _
 have c1:=BW.out.2.1.cells
 by_cases hok:okT T=true
 rotate_left
 ·have hok2:okT T=false:=by simpa using hok
  rw[show Du T (o,k,v)=T by rw[Du,if_neg (fun h=>hok h.1)]]
  rw[hok2] at OK
  go_enter Tryz.func9,Tryz.ntmps9
  go_wp2_with fail;generalize (((w.alloc (.cells #[.bool dl, .slice d1 d5 d9, .slice d2 d6 da, .slice d3 d7 db, .slice d4 d8 dc] 30)).alloc (.cells #[.int .i64 o, .int .i64 k, .int .i64 v] 35)).alloc (.cells #[.bool false, .slice none 0 0, .slice none 0 0, .slice none 0 0, .slice none 0 0] 30))=W0 at *
  refine(OK.out _ BW.out.1).mono ?_
  rintro e w1 ⟨rfl,b1⟩
  obtain⟨p0,p1,p2,p3⟩:=BW.out
  have BX:Hid (Below w.heap.size w w1/\A8 w1 (w.heap.size) #[.bool dl, .slice d1 d5 d9, .slice d2 d6 da, .slice d3 d7 db, .slice d4 d8 dc]/\Fo w1 (w.heap.size+1) #[.int .i64 o, .int .i64 k, .int .i64 v]/\A8 w1 (w.heap.size+1+1) #[.bool false, .slice none 0 0, .slice none 0 0, .slice none 0 0, .slice none 0 0]):=⟨Below.and p0 b1,p1.step b1,p2.step b1,p3.step b1⟩
  clear p0 p1 p2 p3 b1 BW c1;have c1:=BX.out.2.1.cells
  have hlt:=BX.out.2.2.2.lt
  go_wp2_with fail;refine(C2.out _ BX.out.1).mono ?_
  rintro e w2 ⟨y,rfl,ty,b2⟩
  have bz:A8 w2 (w.heap.size+1+1) #[.bool false, .slice none 0 0, .slice none 0 0, .slice none 0 0, .slice none 0 0]:=BX.out.2.2.2.step b2
  have bw:=Below.and BX.out.1 b2
  clear BX c1 OK OM C2 b2 HH;obtain⟨yl,yP,yQ,yR,yS⟩:=y
  obtain⟨y1,y2,y3,y4,y5,y6,y7,y8,y9,ya,yb,yc,hxy⟩:=ty.treeF.slices
  simp only[TV.mk.injEq,true_and] at hxy
  obtain⟨hxy1,hxy2,hxy3,hxy4⟩:=hxy
  subst hxy1 hxy2 hxy3 hxy4;have z8c:=bz.cells
  have z9:=bz.free
  have Z0:=(bz.set5 (.bool yl) (.slice y1 y5 y9) (.slice y2 y6 ya) (.slice y3 y7 yb) (.slice y4 y8 yc)).cells
  have FIN:Hid (AD n (Ha w2 (w.heap.size+1+1) (.bool yl) (.slice y1 y5 y9) (.slice y2 y6 ya) (.slice y3 y7 yb) (.slice y4 y8 yc)) (fun g=>w.heap.size<=g) (TV.mk yl (.slice y1 y5 y9) (.slice y2 y6 ya) (.slice y3 y7 yb) (.slice y4 y8 yc)) T/\Below w.heap.size w (Ha w2 (w.heap.size+1+1) (.bool yl) (.slice y1 y5 y9) (.slice y2 y6 ya) (.slice y3 y7 yb) (.slice y4 y8 yc))):=
   ⟨(ty.chg (Dx w2 (w.heap.size+1+1) _ _ _ _ _) (fun g hg e=>by omega)).mono (fun g hg=>by omega),Dk bw (by omega) _ _ _ _ _⟩
  have HZ2:Hid _:=Z0
  clear Z0 ty;go_wp2;have Z:=HZ2.out
  refine bodyPost_ret (v:= .agg #[.bool yl, .slice y1 y5 y9, .slice y2 y6 ya, .slice y3 y7 yb, .slice y4 y8 yc]) (by simp[results,Tryz.results9,go_sem,Z]) rfl ⟨(TV.mk yl (.slice y1 y5 y9) (.slice y2 y6 ya) (.slice y3 y7 yb) (.slice y4 y8 yc)),rfl,FIN.out.1,FIN.out.2⟩
 rw[hok] at OK
 by_cases hmo:AJ o k v=true
 rotate_left
 ·have hmo2:AJ o k v=false:=by simpa using hmo
  rw[show Du T (o,k,v)=T by rw[Du,if_neg (fun h=>hmo h.2.1)]]
  rw[hmo2] at OM
  go_enter Tryz.func9,Tryz.ntmps9
  go_wp2_with fail;generalize (((w.alloc (.cells #[.bool dl, .slice d1 d5 d9, .slice d2 d6 da, .slice d3 d7 db, .slice d4 d8 dc] 30)).alloc (.cells #[.int .i64 o, .int .i64 k, .int .i64 v] 35)).alloc (.cells #[.bool false, .slice none 0 0, .slice none 0 0, .slice none 0 0, .slice none 0 0] 30))=W0 at *
  refine(OK.out _ BW.out.1).mono ?_
  rintro e w1 ⟨rfl,b1⟩
  obtain⟨p0,p1,p2,p3⟩:=BW.out
  have BX:Hid (Below w.heap.size w w1/\A8 w1 (w.heap.size) #[.bool dl, .slice d1 d5 d9, .slice d2 d6 da, .slice d3 d7 db, .slice d4 d8 dc]/\Fo w1 (w.heap.size+1) #[.int .i64 o, .int .i64 k, .int .i64 v]/\A8 w1 (w.heap.size+1+1) #[.bool false, .slice none 0 0, .slice none 0 0, .slice none 0 0, .slice none 0 0]):=⟨Below.and p0 b1,p1.step b1,p2.step b1,p3.step b1⟩
  clear p0 p1 p2 p3 b1 BW c1;have c2:=BX.out.2.2.1.cells
  go_wp2_with fail;refine(OM.out _).mono ?_
  rintro e w1b ⟨rfl,b1⟩
  obtain⟨p0,p1,p2,p3⟩:=BX.out
  replace BX:Hid (Below w.heap.size w w1b/\A8 w1b (w.heap.size) #[.bool dl, .slice d1 d5 d9, .slice d2 d6 da, .slice d3 d7 db, .slice d4 d8 dc]/\Fo w1b (w.heap.size+1) #[.int .i64 o, .int .i64 k, .int .i64 v]/\A8 w1b (w.heap.size+1+1) #[.bool false, .slice none 0 0, .slice none 0 0, .slice none 0 0, .slice none 0 0]):=⟨Below.and p0 b1,p1.step b1,p2.step b1,p3.step b1⟩
  clear p0 p1 p2 p3 b1 c2;have c1:=BX.out.2.1.cells
  have hlt:=BX.out.2.2.2.lt
  go_wp2_with fail;refine(C2.out _ BX.out.1).mono ?_
  rintro e w2 ⟨y,rfl,ty,b2⟩
  have bz:A8 w2 (w.heap.size+1+1) #[.bool false, .slice none 0 0, .slice none 0 0, .slice none 0 0, .slice none 0 0]:=BX.out.2.2.2.step b2
  have bw:=Below.and BX.out.1 b2
  clear BX c1 OK OM C2 b2 HH;obtain⟨yl,yP,yQ,yR,yS⟩:=y
  obtain⟨y1,y2,y3,y4,y5,y6,y7,y8,y9,ya,yb,yc,hxy⟩:=ty.treeF.slices
  simp only[TV.mk.injEq,true_and] at hxy
  obtain⟨hxy1,hxy2,hxy3,hxy4⟩:=hxy
  subst hxy1 hxy2 hxy3 hxy4;have z8c:=bz.cells
  have z9:=bz.free
  have Z0:=(bz.set5 (.bool yl) (.slice y1 y5 y9) (.slice y2 y6 ya) (.slice y3 y7 yb) (.slice y4 y8 yc)).cells
  have FIN:Hid (AD n (Ha w2 (w.heap.size+1+1) (.bool yl) (.slice y1 y5 y9) (.slice y2 y6 ya) (.slice y3 y7 yb) (.slice y4 y8 yc)) (fun g=>w.heap.size<=g) (TV.mk yl (.slice y1 y5 y9) (.slice y2 y6 ya) (.slice y3 y7 yb) (.slice y4 y8 yc)) T/\Below w.heap.size w (Ha w2 (w.heap.size+1+1) (.bool yl) (.slice y1 y5 y9) (.slice y2 y6 ya) (.slice y3 y7 yb) (.slice y4 y8 yc))):=
   ⟨(ty.chg (Dx w2 (w.heap.size+1+1) _ _ _ _ _) (fun g hg e=>by omega)).mono (fun g hg=>by omega),Dk bw (by omega) _ _ _ _ _⟩
  have HZ2:Hid _:=Z0
  clear Z0 ty;go_wp2;have Z:=HZ2.out
  refine bodyPost_ret (v:= .agg #[.bool yl, .slice y1 y5 y9, .slice y2 y6 ya, .slice y3 y7 yb, .slice y4 y8 yc]) (by simp[results,Tryz.results9,go_sem,Z]) rfl ⟨(TV.mk yl (.slice y1 y5 y9) (.slice y2 y6 ya) (.slice y3 y7 yb) (.slice y4 y8 yc)),rfl,FIN.out.1,FIN.out.2⟩
 rw[hmo] at OM
 by_cases h4:o=4
 ·have h4b:(o==4)=true:=by simp[h4]
  rw[show Du T (o,k,v)=T by rw[Du,if_neg (fun h=>h.2.2 h4)]]
  clear h4;go_enter Tryz.func9,Tryz.ntmps9
  go_wp2_with fail;generalize (((w.alloc (.cells #[.bool dl, .slice d1 d5 d9, .slice d2 d6 da, .slice d3 d7 db, .slice d4 d8 dc] 30)).alloc (.cells #[.int .i64 o, .int .i64 k, .int .i64 v] 35)).alloc (.cells #[.bool false, .slice none 0 0, .slice none 0 0, .slice none 0 0, .slice none 0 0] 30))=W0 at *
  refine(OK.out _ BW.out.1).mono ?_
  rintro e w1 ⟨rfl,b1⟩
  obtain⟨p0,p1,p2,p3⟩:=BW.out
  have BX:Hid (Below w.heap.size w w1/\A8 w1 (w.heap.size) #[.bool dl, .slice d1 d5 d9, .slice d2 d6 da, .slice d3 d7 db, .slice d4 d8 dc]/\Fo w1 (w.heap.size+1) #[.int .i64 o, .int .i64 k, .int .i64 v]/\A8 w1 (w.heap.size+1+1) #[.bool false, .slice none 0 0, .slice none 0 0, .slice none 0 0, .slice none 0 0]):=⟨Below.and p0 b1,p1.step b1,p2.step b1,p3.step b1⟩
  clear p0 p1 p2 p3 b1 BW c1;have c2:=BX.out.2.2.1.cells
  go_wp2_with fail;refine(OM.out _).mono ?_
  rintro e w1b ⟨rfl,b1⟩
  obtain⟨p0,p1,p2,p3⟩:=BX.out
  replace BX:Hid (Below w.heap.size w w1b/\A8 w1b (w.heap.size) #[.bool dl, .slice d1 d5 d9, .slice d2 d6 da, .slice d3 d7 db, .slice d4 d8 dc]/\Fo w1b (w.heap.size+1) #[.int .i64 o, .int .i64 k, .int .i64 v]/\A8 w1b (w.heap.size+1+1) #[.bool false, .slice none 0 0, .slice none 0 0, .slice none 0 0, .slice none 0 0]):=⟨Below.and p0 b1,p1.step b1,p2.step b1,p3.step b1⟩
  clear p0 p1 p2 p3 b1 c2;have c1:=BX.out.2.1.cells
  have c2:=BX.out.2.2.1.cells
  have hlt:=BX.out.2.2.2.lt
  go_wp2_with fail;refine(C2.out _ BX.out.1).mono ?_
  rintro e w2 ⟨y,rfl,ty,b2⟩
  have bz:A8 w2 (w.heap.size+1+1) #[.bool false, .slice none 0 0, .slice none 0 0, .slice none 0 0, .slice none 0 0]:=BX.out.2.2.2.step b2
  have bw:=Below.and BX.out.1 b2
  clear BX c1 c2 OK OM C2 b2 HH;obtain⟨yl,yP,yQ,yR,yS⟩:=y
  obtain⟨y1,y2,y3,y4,y5,y6,y7,y8,y9,ya,yb,yc,hxy⟩:=ty.treeF.slices
  simp only[TV.mk.injEq,true_and] at hxy
  obtain⟨hxy1,hxy2,hxy3,hxy4⟩:=hxy
  subst hxy1 hxy2 hxy3 hxy4;have z8c:=bz.cells
  have z9:=bz.free
  have Z0:=(bz.set5 (.bool yl) (.slice y1 y5 y9) (.slice y2 y6 ya) (.slice y3 y7 yb) (.slice y4 y8 yc)).cells
  have FIN:Hid (AD n (Ha w2 (w.heap.size+1+1) (.bool yl) (.slice y1 y5 y9) (.slice y2 y6 ya) (.slice y3 y7 yb) (.slice y4 y8 yc)) (fun g=>w.heap.size<=g) (TV.mk yl (.slice y1 y5 y9) (.slice y2 y6 ya) (.slice y3 y7 yb) (.slice y4 y8 yc)) T/\Below w.heap.size w (Ha w2 (w.heap.size+1+1) (.bool yl) (.slice y1 y5 y9) (.slice y2 y6 ya) (.slice y3 y7 yb) (.slice y4 y8 yc))):=
   ⟨(ty.chg (Dx w2 (w.heap.size+1+1) _ _ _ _ _) (fun g hg e=>by omega)).mono (fun g hg=>by omega),Dk bw (by omega) _ _ _ _ _⟩
  have HZ2:Hid _:=Z0
  clear Z0 ty;go_wp2;have Z:=HZ2.out
  refine bodyPost_ret (v:= .agg #[.bool yl, .slice y1 y5 y9, .slice y2 y6 ya, .slice y3 y7 yb, .slice y4 y8 yc]) (by simp[results,Tryz.results9,go_sem,Z]) rfl ⟨(TV.mk yl (.slice y1 y5 y9) (.slice y2 y6 ya) (.slice y3 y7 yb) (.slice y4 y8 yc)),rfl,FIN.out.1,FIN.out.2⟩
 ·have h4b:(o==4)=false:=by simp[h4]
  have h7:=JI hok
  have GV:Hid (∀u vm,Below w.heap.size w u->Row u vm 1 (Af [(o,k,v)])->Calls Tryz.prog 31 #[.agg #[.bool dl, .slice d1 d5 d9, .slice d2 d6 da, .slice d3 d7 db, .slice d4 d8 dc],vm] u fun e w' =>∃v1 v2,e= .returned (.agg #[v1,v2])/\Ah (Al T) w' (fun b=>F b∨u.heap.size<=b) v1 (Ac (Al T) T [(o,k,v)]).1/\An w' (fun b=>F b∨u.heap.size<=b) v2 (Ac (Al T) T [(o,k,v)]).2.length (Ad (Ac (Al T) T [(o,k,v)]).2)/\Below u.heap.size u w'):=fun u vm hu hr=>Mw (Al T) F (TV.mk dl (.slice d1 d5 d9) (.slice d2 d6 da) (.slice d3 d7 db) (.slice d4 d8 dc)) T vm [(o,k,v)] 0 1000 u (Au.down h7.1 (HH.out.below hu).treeF) hr (Pr hok) (fun m hm=>by
   rw[List.mem_singleton] at hm
   subst hm;have:=Cw hmo
   exact⟨⟨hmo,h4⟩,this.2.1.1,by have:=this.2.1.2;simp only;omega⟩) (by simp) (by have:=h7.2.2;simp only[List.length_cons,List.length_nil];omega)
  have hmo' :=BE (Al T) T [(o,k,v)] h7.1 (by simp)
  have hln:=Bw hmo'.1.2
  have hl2:=hmo'.2
  simp only[List.length_cons,List.length_nil] at hl2
  have RT:Hid (∀(u:World) (F' :Nat->Prop) (v1 v2:Value),Ah (Al T) u F' v1 (Ac (Al T) T [(o,k,v)]).1->An u F' v2 (Ac (Al T) T [(o,k,v)]).2.length (Ad (Ac (Al T) T [(o,k,v)]).2)->Calls Tryz.prog 30 #[.agg #[v1,v2]] u fun e w' =>∃x:TV,e= .returned x.val/\Au ((Al T)+(Ac (Al T) T [(o,k,v)]).1.length) w' (fun b=>F' b∨u.heap.size<=b) x (Cg (Ac (Al T) T [(o,k,v)]))/\Below u.heap.size u w'):=fun u F' v1 v2 h1 h2=>N5 (Al T) F' v1 v2 (Ac (Al T) T [(o,k,v)]) u h1 h2 hmo'.1 (by omega)
  have CE:Hid (∀(u:World) (x1:TV) (F1:Nat->Prop),Below w.heap.size w u->Au ((Al T)+(Ac (Al T) T [(o,k,v)]).1.length) u F1 x1 (Cg (Ac (Al T) T [(o,k,v)]))->Calls Tryz.prog 29 #[x1.val, .agg #[.bool dl, .slice d1 d5 d9, .slice d2 d6 da, .slice d3 d7 db, .slice d4 d8 dc]] u fun e w' =>∃y:TV,e= .returned y.val/\AD n w' (fun g=>u.heap.size<=g) y (Du T (o,k,v))/\Below u.heap.size u w'):=fun u x1 F1 hu h1=>by
   have:=I9 _ n hn x1 (TV.mk dl (.slice d1 d5 d9) (.slice d2 d6 da) (.slice d3 d7 db) (.slice d4 d8 dc)) (Cg (Ac (Al T) T [(o,k,v)])) T F1 F u h1 (HH.out.below hu) hs
   rw[Du,if_pos ⟨hok,hmo,h4⟩]
   exact this
  clear h7 hmo' hln hl2 HH C2 h4;generalize Du T (o,k,v)=T2 at *
  generalize (Al T)+(Ac (Al T) T [(o,k,v)]).1.length=N1 at *
  generalize Cg (Ac (Al T) T [(o,k,v)])=T1 at *
  generalize (Ac (Al T) T [(o,k,v)])=MM at *
  generalize (Al T)=D at *
  go_enter Tryz.func9,Tryz.ntmps9
  go_wp2_with fail;generalize (((w.alloc (.cells #[.bool dl, .slice d1 d5 d9, .slice d2 d6 da, .slice d3 d7 db, .slice d4 d8 dc] 30)).alloc (.cells #[.int .i64 o, .int .i64 k, .int .i64 v] 35)).alloc (.cells #[.bool false, .slice none 0 0, .slice none 0 0, .slice none 0 0, .slice none 0 0] 30))=W0 at *
  refine(OK.out _ BW.out.1).mono ?_
  rintro e w1 ⟨rfl,b1⟩
  obtain⟨p0,p1,p2,p3⟩:=BW.out
  have BX:Hid (Below w.heap.size w w1/\A8 w1 (w.heap.size) #[.bool dl, .slice d1 d5 d9, .slice d2 d6 da, .slice d3 d7 db, .slice d4 d8 dc]/\Fo w1 (w.heap.size+1) #[.int .i64 o, .int .i64 k, .int .i64 v]/\A8 w1 (w.heap.size+1+1) #[.bool false, .slice none 0 0, .slice none 0 0, .slice none 0 0, .slice none 0 0]):=⟨Below.and p0 b1,p1.step b1,p2.step b1,p3.step b1⟩
  clear p0 p1 p2 p3 b1 BW c1;have c2:=BX.out.2.2.1.cells
  go_wp2_with fail;refine(OM.out _).mono ?_
  rintro e w1b ⟨rfl,b1⟩
  obtain⟨p0,p1,p2,p3⟩:=BX.out
  replace BX:Hid (Below w.heap.size w w1b/\A8 w1b (w.heap.size) #[.bool dl, .slice d1 d5 d9, .slice d2 d6 da, .slice d3 d7 db, .slice d4 d8 dc]/\Fo w1b (w.heap.size+1) #[.int .i64 o, .int .i64 k, .int .i64 v]/\A8 w1b (w.heap.size+1+1) #[.bool false, .slice none 0 0, .slice none 0 0, .slice none 0 0, .slice none 0 0]):=⟨Below.and p0 b1,p1.step b1,p2.step b1,p3.step b1⟩
  clear p0 p1 p2 p3 b1 c2;have c2:=BX.out.2.2.1.cells
  go_wp2_with fail;clear c2;replace BX:Hid (Below w.heap.size w w1b.drew/\A8 w1b.drew (w.heap.size) #[.bool dl, .slice d1 d5 d9, .slice d2 d6 da, .slice d3 d7 db, .slice d4 d8 dc]/\Fo w1b.drew (w.heap.size+1) #[.int .i64 o, .int .i64 k, .int .i64 v]/\A8 w1b.drew (w.heap.size+1+1) #[.bool false, .slice none 0 0, .slice none 0 0, .slice none 0 0, .slice none 0 0]):=⟨BX.out.1.drew,BX.out.2.1.step (Below.refl _ _).drew,BX.out.2.2.1.step (Below.refl _ _).drew,BX.out.2.2.2.step (Below.refl _ _).drew⟩
  refine wp_region_held_drew (S:=fun u=>(∀j,u.cell? ⟨w.heap.size,j,none⟩= #[.bool dl, .slice d1 d5 d9, .slice d2 d6 da, .slice d3 d7 db, .slice d4 d8 dc][j]?)/\∀j,u.cell? ⟨w.heap.size+1,j,none⟩= #[.int .i64 o, .int .i64 k, .int .i64 v][j]?) (by kernel_rfl) ⟨BX.out.2.1.cells,BX.out.2.2.1.cells⟩ (fun hH=> ?_)
  generalize w1b.drew=w2 at *
  refine tk 0 (oi:=⟨_,_,_,_,_,_⟩) (v:= ?_) rfl (by kernel_rfl) (fun _ _ _ h=>h) (Or.inl ⟨by rfl, ?_⟩) (by assumption) ?_
  rotate_left
  ·((intro w hSw;(try dsimp only at hSw);obtain⟨hSa,hSb⟩:=hSw;go_simp);(try with_reducible rfl))
  try simp only[Act.put,sA,sB,sC]
  refine tk 1 (oi:=⟨_,_,_,_,_,_⟩) (v:= ?_) rfl (by kernel_rfl) (fun _ _ _ h=>h) (Or.inl ⟨by rfl, ?_⟩) (by assumption) ?_
  rotate_left
  ·((intro w hSw;(try dsimp only at hSw);obtain⟨hSa,hSb⟩:=hSw;go_simp);(try with_reducible rfl))
  try simp only[Act.put,sA,sB,sC]
  refine tk 5 (oi:=⟨_,_,_,_,_,_⟩) (v:= ?_) rfl (by kernel_rfl) (fun _ _ _ h=>h) (Or.inl ⟨by rfl, ?_⟩) (by assumption) ?_
  rotate_left
  ·((intro w hSw;(try dsimp only at hSw);obtain⟨hSa,hSb⟩:=hSw;go_simp);(try with_reducible rfl))
  try simp only[Act.put,sA,sB,sC]
  refine wpAnyH_ready (rs:=[2]) (by kernel_rfl) (by simp) ?_
  refine AllReadyH.cons (o:=⟨_,_,_,_,_,_⟩) rfl (fun K hK=> ?_) AllReadyH.nil
  go_simp
  replace BX:Hid (Below w.heap.size w (w2.alloc (.cells #[.int .i64 o, .int .i64 k, .int .i64 v] 35))/\A8 (w2.alloc (.cells #[.int .i64 o, .int .i64 k, .int .i64 v] 35)) (w.heap.size) #[.bool dl, .slice d1 d5 d9, .slice d2 d6 da, .slice d3 d7 db, .slice d4 d8 dc]/\Fo (w2.alloc (.cells #[.int .i64 o, .int .i64 k, .int .i64 v] 35)) (w.heap.size+1) #[.int .i64 o, .int .i64 k, .int .i64 v]/\A8 (w2.alloc (.cells #[.int .i64 o, .int .i64 k, .int .i64 v] 35)) (w.heap.size+1+1) #[.bool false, .slice none 0 0, .slice none 0 0, .slice none 0 0, .slice none 0 0]):=⟨Below.and BX.out.1 (al1 w2 (.cells #[.int .i64 o, .int .i64 k, .int .i64 v] 35)),BX.out.2.1.step (al1 w2 (.cells #[.int .i64 o, .int .i64 k, .int .i64 v] 35)),BX.out.2.2.1.step (al1 w2 (.cells #[.int .i64 o, .int .i64 k, .int .i64 v] 35)),BX.out.2.2.2.step (al1 w2 (.cells #[.int .i64 o, .int .i64 k, .int .i64 v] 35))⟩
  have RM:Hid (Row (w2.alloc (.cells #[.int .i64 o, .int .i64 k, .int .i64 v] 35)) (.slice (some ⟨w2.heap.size,0,none⟩) 1 1) 1 (Af [(o,k,v)])):=Row.laid w2 (Af [(o,k,v)]) 35 _ rfl
  refine hK.out _ _ (⟨BX.out.2.1.cells,BX.out.2.2.1.cells⟩) (fun hH2=> ?_)
  clear hK K hH;have hH:=hH2
  clear hH2;try simp only[Act.put,sA,sB,sC]
  generalize (w2.alloc (.cells #[.int .i64 o, .int .i64 k, .int .i64 v] 35))=w3 at *
  refine wpAnyH_ready (rs:=[3]) (by kernel_rfl) (by simp) ?_
  refine AllReadyH.cons (o:=⟨_,_,_,_,_,_⟩) rfl (fun K hK=> ?_) AllReadyH.nil
  refine(if_pos (show Region.wanted _ _=true by kernel_rfl)).mpr ?_
  refine Kj 31 [.tmp 20, .tmp 22] #[30,24] rfl Va [.agg #[.bool dl, .slice d1 d5 d9, .slice d2 d6 da, .slice d3 d7 db, .slice d4 d8 dc], .slice (some ⟨w2.heap.size,0,none⟩) 1 1] rfl (GV.out _ _ BX.out.1 RM.out) ?_
  rintro e u1 ⟨v1,v2,rfl,t1,t2,b1⟩
  replace BX:Hid (Below w.heap.size w u1/\A8 u1 (w.heap.size) #[.bool dl, .slice d1 d5 d9, .slice d2 d6 da, .slice d3 d7 db, .slice d4 d8 dc]/\Fo u1 (w.heap.size+1) #[.int .i64 o, .int .i64 k, .int .i64 v]/\A8 u1 (w.heap.size+1+1) #[.bool false, .slice none 0 0, .slice none 0 0, .slice none 0 0, .slice none 0 0]):=⟨Below.and BX.out.1 b1,BX.out.2.1.step b1,BX.out.2.2.1.step b1,BX.out.2.2.2.step b1⟩
  have HT:Hid _:=And.intro t1 t2
  clear b1 t1 t2 RM;refine⟨_,rfl, ?_⟩
  refine hK.out _ _ (⟨BX.out.2.1.cells,BX.out.2.2.1.cells⟩) (fun hH2=> ?_)
  clear hK K hH;have hH:=hH2
  clear hH2;try simp only[Act.put,sA,sB,sC]
  refine wpAnyH_ready (rs:=[4]) (by kernel_rfl) (by simp) ?_
  refine AllReadyH.cons (o:=⟨_,_,_,_,_,_⟩) rfl (fun K hK=> ?_) AllReadyH.nil
  refine(if_pos (show Region.wanted _ _=true by kernel_rfl)).mpr ?_
  refine Kj 30 [.tmp 23] #[65] rfl NK [.agg #[v1,v2]] rfl (RT.out _ _ _ _ HT.out.1 HT.out.2) ?_
  rintro e u2 ⟨x1,rfl,t3,b2⟩
  replace BX:Hid (Below w.heap.size w u2/\A8 u2 (w.heap.size) #[.bool dl, .slice d1 d5 d9, .slice d2 d6 da, .slice d3 d7 db, .slice d4 d8 dc]/\Fo u2 (w.heap.size+1) #[.int .i64 o, .int .i64 k, .int .i64 v]/\A8 u2 (w.heap.size+1+1) #[.bool false, .slice none 0 0, .slice none 0 0, .slice none 0 0, .slice none 0 0]):=⟨Below.and BX.out.1 b2,BX.out.2.1.step b2,BX.out.2.2.1.step b2,BX.out.2.2.2.step b2⟩
  have HU:Hid _:=t3
  clear b2 t3 HT;refine⟨_,rfl, ?_⟩
  refine hK.out _ _ (⟨BX.out.2.1.cells,BX.out.2.2.1.cells⟩) (fun hH2=> ?_)
  clear hK K hH;have hH:=hH2
  clear hH2;try simp only[Act.put,sA,sB,sC]
  refine wpAnyH_ready (rs:=[6]) (by kernel_rfl) (by simp) ?_
  refine AllReadyH.cons (o:=⟨_,_,_,_,_,_⟩) rfl (fun K hK=> ?_) AllReadyH.nil
  refine(if_pos (show Region.wanted _ _=true by kernel_rfl)).mpr ?_
  refine Kj 29 [.tmp 24, .tmp 25] #[30,30] rfl Jm [x1.val, .agg #[.bool dl, .slice d1 d5 d9, .slice d2 d6 da, .slice d3 d7 db, .slice d4 d8 dc]] rfl (CE.out _ _ _ BX.out.1 HU.out) ?_
  rintro e u3 ⟨y,rfl,ty,b3⟩
  have hlt:=BX.out.2.2.2.lt
  replace BX:Hid (Below w.heap.size w u3/\A8 u3 (w.heap.size) #[.bool dl, .slice d1 d5 d9, .slice d2 d6 da, .slice d3 d7 db, .slice d4 d8 dc]/\Fo u3 (w.heap.size+1) #[.int .i64 o, .int .i64 k, .int .i64 v]/\A8 u3 (w.heap.size+1+1) #[.bool false, .slice none 0 0, .slice none 0 0, .slice none 0 0, .slice none 0 0]):=⟨Below.and BX.out.1 b3,BX.out.2.1.step b3,BX.out.2.2.1.step b3,BX.out.2.2.2.step b3⟩
  clear b3 HU;obtain⟨yl,yP,yQ,yR,yS⟩:=y
  obtain⟨y1,y2,y3,y4,y5,y6,y7,y8,y9,ya,yb,yc,hxy⟩:=ty.treeF.slices
  simp only[TV.mk.injEq,true_and] at hxy
  obtain⟨hxy1,hxy2,hxy3,hxy4⟩:=hxy
  subst hxy1 hxy2 hxy3 hxy4;refine⟨_,rfl, ?_⟩
  refine hK.out _ _ (⟨BX.out.2.1.cells,BX.out.2.2.1.cells⟩) (fun hH2=> ?_)
  clear hK K hH;have hH:=hH2
  clear hH2;try simp only[Act.put,sA,sB,sC]
  have bz:=BX.out.2.2.2
  have bw:=BX.out.1
  have z8c:=bz.cells
  have z9:=bz.free
  have Z0:=(bz.set5 (.bool yl) (.slice y1 y5 y9) (.slice y2 y6 ya) (.slice y3 y7 yb) (.slice y4 y8 yc)).cells
  have K0:=(BX.out.2.1.chg (Dx u3 (w.heap.size+1+1) (.bool yl) (.slice y1 y5 y9) (.slice y2 y6 ya) (.slice y3 y7 yb) (.slice y4 y8 yc)) (by omega)).cells
  have K1:=(BX.out.2.2.1.chg (Dx u3 (w.heap.size+1+1) (.bool yl) (.slice y1 y5 y9) (.slice y2 y6 ya) (.slice y3 y7 yb) (.slice y4 y8 yc)) (by omega)).cells
  have FIN:Hid (AD n (Ha u3 (w.heap.size+1+1) (.bool yl) (.slice y1 y5 y9) (.slice y2 y6 ya) (.slice y3 y7 yb) (.slice y4 y8 yc)) (fun g=>w.heap.size<=g) (TV.mk yl (.slice y1 y5 y9) (.slice y2 y6 ya) (.slice y3 y7 yb) (.slice y4 y8 yc)) T2/\Below w.heap.size w (Ha u3 (w.heap.size+1+1) (.bool yl) (.slice y1 y5 y9) (.slice y2 y6 ya) (.slice y3 y7 yb) (.slice y4 y8 yc))):=
   ⟨(ty.chg (Dx u3 (w.heap.size+1+1) _ _ _ _ _) (fun g hg e=>by omega)).mono (fun g hg=>by omega),Dk bw (by omega) _ _ _ _ _⟩
  have HZ2:Hid _:=Z0
  clear Z0 ty BX bw;refine wpAnyH_ready (rs:=[7]) (by kernel_rfl) (by simp) ?_
  refine AllReadyH.cons (o:=⟨_,_,_,_,_,_⟩) rfl (fun K hK=> ?_) AllReadyH.nil
  go_simp
  refine hK.out _ _ (⟨K0,K1⟩) (fun hH2=> ?_)
  clear hK K hH;have hH:=hH2
  clear hH2;try simp only[Act.put,sA,sB,sC]
  refine wpAnyH_done (by kernel_rfl) ?_ _
  clear K0 K1 hH bz z8c z9;go_wp2;have Z:=HZ2.out
  refine bodyPost_ret (v:= .agg #[.bool yl, .slice y1 y5 y9, .slice y2 y6 ya, .slice y3 y7 yb, .slice y4 y8 yc]) (by simp[results,Tryz.results9,go_sem,Z]) rfl ⟨(TV.mk yl (.slice y1 y5 y9) (.slice y2 y6 ya) (.slice y3 y7 yb) (.slice y4 y8 yc)),rfl,FIN.out.1,FIN.out.2⟩
end
section
open Go.RowKit

structure Kx (X:World->Nat->Prop) (W W' :World):Prop where
 chg:Chg (X W) W W'
 sub:∀g,X W' g->X W g∨W.heap.size<=g
theorem Kx.refl (X:World->Nat->Prop) (W:World):Kx X W W:=⟨Chg.refl _ _,fun _ h=> .inl h⟩
theorem Kx.trans {X:World->Nat->Prop} {A B C:World} (h:Kx X A B) (k:Kx X B C):Kx X A C:=
 ⟨h.chg.trans k.chg fun g hg hx=>(h.sub g hx).elim id fun h' =>by omega,fun g hg=>(k.sub g hg).elim (fun hx=>(h.sub g hx)) fun h' => .inr (Nat.le_trans h.chg.size h')⟩

structure Cl {α :Type} (X:World->Nat->Prop) (J:List α ->World->Prop):Prop where
 lt:∀s W g,J s W->X W g->g<W.heap.size
 abide:∀s W W',J s W->Chg (fun g=>¬X W g) W W' ->J s W' ∧∀g,X W' g↔X W g
theorem Cl.kx {α :Type} {X:World->Nat->Prop} {J:List α ->World->Prop} (h:Cl X J) {s:List α} {W W' :World} (hj:J s W) (hc:Chg (fun _=>False) W W'):J s W' ∧Kx X W W' ∧∀g,X W' g↔X W g:=by
 have:=h.abide s W W' hj (hc.mono fun _ _ h=>h.elim)
 exact⟨this.1,⟨hc.mono fun _ _ h=>h.elim,fun g hg=> .inl ((this.2 g).1 hg)⟩,this.2⟩

def Hl {α :Type} (P:Program) (gf:Nat) (lb:Array Value) (encs: α ->Array Value) (Dta:Nat->Prop) (L:List α) (w:World):Prop:=
 ∀(n l:Nat) (X:World->Nat->Prop) (J Jx:List α ->World->Prop) (W:World),Chg (fun g=>¬Dta g) w W->(∀g,Dta g->¬X W g)->Cl X J->Cl X Jx→
  (∀pre x W1,J pre W1->pre++[x] <+: L->YieldAt Fence.wide (n-1) P l (encs x) W1 fun e W'=>
   (e= .returned (.bool true)/\J (pre++[x]) W' ∧Kx X W1 W')∨(e= .returned (.bool false)/\Jx (pre++[x]) W' ∧Kx X W1 W'))→
  J [] W→
  CallsIn Fence.wide n P gf (#[.func (.yield l) #[] #[]]++lb) W fun e W' =>(∃v,e= .returned v)/\(J L W' ∨∃pre,pre <+: L/\Jx pre W')/\Kx X W W'

theorem Te {F:Fence} (hd:F.depth=none) (k:Nat):F.room k:=fun d h=>by rw[hd] at h;cases h
theorem Pz {m:Nat} (m' :Nat) {P:Program} {l:Nat} {args:Array Value} {W:World} {R:Ending->World->Prop} (h:YieldAt Fence.wide m P l args W R):YieldAt Fence.wide m' P l args W R:=by
 obtain⟨fn,tmps,assign,body,hy,h1,h2⟩:=h
 exact⟨fn,tmps,assign,body,hy,h1,fun c cs _=>h2 c cs (Te rfl _)⟩

def Wm {α :Type} (X:World->Nat->Prop) (I:List α ->World->Prop) (Ix:Code->List α ->World->Prop) (xs:List α) (W:World):Exit->Act->World->Prop
 |.normal,_,W' =>I xs W' ∧Kx X W W'
 |.ret,_,W' =>Ix .ret xs W' ∧Kx X W W'
 |.exit id,_,W' =>Ix (.exit id) xs W' ∧Kx X W W'
 |.goto t,_,W' =>Ix (.goto t) xs W' ∧Kx X W W'
 |.panic _,_,_=>False
 |.outgrown,_,_=>False

theorem Ee {F:Nat->Prop} (W:World) (l:Nat) (o:Obj) (hl:F l):Chg F W (W.putObj l o):=
 ⟨rfl,rfl,rfl,by simp,fun k _ hk=>World.putObj_heap_other (fun e=>hk (by subst e;exact hl))⟩
theorem MQ {F:Nat->Prop} (W:World) (o:Obj):Chg F W (W.alloc o):=(Chg.refl F W).alloc o

theorem H0 {α :Type} {P:Program} {n:Nat} {g:Operand} {ps:Array Tmp} {assign body:Code} {Q:Exit->Act->World->Prop} {a:Act} {w:World}
  {gf:Nat} {lb:Array Value} (hg:a.eval g= .func (.func gf) #[] lb) (eg:∀args w,(callFunc gf args).run P w= .ok (.enter gf args) w)
  {encs: α ->Array Value} {Dta:Nat->Prop} {L:List α} {w0:World} (hseq:Hl P gf lb encs Dta L w0) (h0w:Chg (fun g=>¬Dta g) w0 w) (hDlt:∀g,Dta g->g<w.heap.size) (hps:∀x,(encs x).size=ps.size)
  (X:World->Nat->Prop) (I:List α ->World->Prop) (Ix:Code->List α ->World->Prop) (hI:Cl X I) (hIx:∀c,Cl X (Ix c)) (hD:∀g,Dta g->¬X w g) (h0:I [] w)
  (Ax: α ->Act->World->Prop) (hAx:∀x a' W l o o',Ax x a' W->W.heap[l]? =some o->o.isCells=false->Ax x a' (W.putObj l o'))
  (hassign:∀(l:Nat) (pre:List α) (x: α) (W:World) (K:Act->World->Prop),I pre W->pre++[x] <+: L->(∀a' W',I pre W' ->Kx X W W' ->Ax x a' W' ->K a' W')→
   assign.wpIn (Fence.wide.inRound l) (n-1-1) P (Exit.then K (fun _ _ _=>False)) { tmps:=(ps.zip (encs x)).foldl (fun t (p,v)=>t.setIfInBounds p v) a.tmps,defers:=[] } W)
  (hbody:∀(l:Nat) (pre:List α) (x: α) (a' :Act) (W:World),I pre W->Ax x a' W->pre++[x] <+: L->body.wpIn (Fence.wide.inRound l) (n-1-1) P (Wm X I Ix (pre++[x]) W) a' W)
  (hdone:∀(D:Nat) (W:World),w.heap.size<=D->I L W->Kx X w W->W.heap[D]? =some (.deferred (some []))->¬X W D->Q .normal { a with defers:={ target:= .collected D,args:= #[] }::a.defers } W)
  (hstop:∀(D:Nat) (c:Code) (pre:List α) (W:World),w.heap.size<=D->pre <+: L->Ix c pre W->Kx X w W->W.heap[D]? =some (.deferred (some []))->¬X W D->c.wpIn Fence.wide n P Q { a with defers:={ target:= .collected D,args:= #[] }::a.defers } W) :
  (Code.rangeFunc g ps assign body).wpIn Fence.wide n P Q a w:=by
 refine wpIn_rangeFunc ?_
 intro fn hfn;obtain⟨rec,hrec⟩:∃rec:LoopState->Option Code->Loop,rec=fun st pe=>{ state:=st,pending:=pe,fn,tmps:=a.tmps,params:=ps,assign,body,defers:=w.heap.size }:=⟨_,rfl⟩
 obtain⟨W1,hW1⟩:∃W1,(w.alloc (.deferred (some []))).alloc (.loop (rec .ready none))=W1:=⟨_,rfl⟩
 have hL1:W1.heap[w.heap.size+1]? =some (.loop (rec .ready none)):=by
  rw[←hW1];have:=World.alloc_heap_new (w.alloc (.deferred (some []))) (.loop (rec .ready none));rwa [World.size_alloc] at this
 have hK1:W1.heap[w.heap.size]? =some (.deferred (some [])):=by
  rw[←hW1];exact(Below.heap_alloc _ _ _ (by simp)).trans (World.alloc_heap_new w _)
 have hc1:∀F:Nat->Prop,Chg F w W1:=fun F=>by rw[←hW1];exact(MQ w _).alloc _
 have hi1:=hI.abide [] w W1 h0 (hc1 _)
 have hs1:W1.heap.size=w.heap.size+2:=by rw[←hW1];simp
 refine⟨w.heap.size+1,[{ target:= .collected w.heap.size,args:= #[] }],W1,{ target:= .fn (.func gf) lb,args:= #[.func (.yield (w.heap.size+1)) #[] #[]] },W1,gf,
  #[.func (.yield (w.heap.size+1)) #[] #[]]++lb,W1, ?_, ?_, ?_, ?_,(fun h=>(by cases h)), ?_⟩
 ·rw[←hW1,hrec];exact run_enterLoop_outer _ _ _ _ _
 ·simp only[resolve,hg]
  simp[go_sem]
 ·intro f' _;trivial
 ·simp[invoke,go_sem,eg]
 ·-- THE ITERATOR's CONTRACT, AT THE CALLER's INVARIANT WITH THE BOOK-KEEPING BESIDE IT
  have hx1:∀g,X W1 g->g<w.heap.size:=fun g hg' =>hI.lt [] w g h0 ((hi1.2 g).1 hg')
  have hcl:∀(I' :List α ->World->Prop) (st:LoopState) (pe:Option Code),Cl X I' →
    Cl (fun W g=>X W g∨g=w.heap.size∨g=w.heap.size+1) (fun pre W=>I' pre W/\W.heap[w.heap.size+1]? =some (.loop (rec st pe))/\W.heap[w.heap.size]? =some (.deferred (some []))/\∀g,X W g->g≠w.heap.size/\g≠w.heap.size+1):=fun I' st pe hI' =>by
   refine⟨fun s W g h hx=> ?_,fun s W W' h hc=> ?_⟩
   ·rcases hx with hx|rfl|rfl
    ·exact hI'.lt s W g h.1 hx
    ·exact(Array.getElem?_eq_some_iff.1 h.2.2.1).1
    ·exact(Array.getElem?_eq_some_iff.1 h.2.1).1
   ·have:=hI'.abide s W W' h.1 (hc.mono fun g _ hn hx=>hn (.inl hx))
    refine⟨⟨this.1, ?_, ?_,fun g hx=>h.2.2.2 g ((this.2 g).1 hx)⟩,fun g=>by rw[this.2 g]⟩
    ·exact(hc.block _ (Array.getElem?_eq_some_iff.1 h.2.1).1 (fun hn=>hn (.inr (.inr rfl)))).trans h.2.1
    ·exact(hc.block _ (Array.getElem?_eq_some_iff.1 h.2.2.1).1 (fun hn=>hn (.inr (.inl rfl)))).trans h.2.2.1
  have hclx:Cl (fun W g=>X W g∨g=w.heap.size∨g=w.heap.size+1) (fun pre W=>∃c,Ix c pre W/\W.heap[w.heap.size+1]? =some (.loop (rec .done (some c)))/\W.heap[w.heap.size]? =some (.deferred (some []))/\∀g,X W g->g≠w.heap.size/\g≠w.heap.size+1):=by
   refine⟨fun s W g ⟨c,h⟩ hx=>(hcl (Ix c) .done (some c) (hIx c)).lt s W g h hx,fun s W W' ⟨c,h⟩ hc=> ?_⟩
   have:=(hcl (Ix c) .done (some c) (hIx c)).abide s W W' h hc
   exact⟨⟨c,this.1⟩,this.2⟩
  refine(hseq (n-1) (w.heap.size+1) (fun W g=>X W g∨g=w.heap.size∨g=w.heap.size+1) _ _ W1 (h0w.trans (hc1 _) (fun _ _ h=>h))
   (fun g hd hx=> ?_) (hcl I .ready none hI) hclx ?_ ⟨hi1.1,hL1,hK1,fun g hx=>by have:=hx1 g hx;omega⟩).mono ?_
  ·rcases hx with hx|rfl|rfl
   ·exact hD g hd ((hi1.2 g).1 hx)
   ·exact absurd (hDlt _ hd) (Nat.lt_irrefl _)
   ·have:=hDlt _ hd;omega
  ·-- ONE ROUND
   rintro pre x W ⟨hi,hl,hk,hne⟩ hpre
   have hlt:w.heap.size+1<W.heap.size:=(Array.getElem?_eq_some_iff.1 hl).1
   have hy:=run_yield (P:=P) (args:=encs x) hl (by rw[hrec];exact hps x)
   rw[hrec] at hy
   refine⟨fn,_,assign,body,hy,roundIn_of_wpIn hfn (hassign _ pre x W _ hi hpre ?_)⟩
   clear hy;intro a' Wa hia hka hax;have hna:∀g,X Wa g->g≠w.heap.size/\g≠w.heap.size+1:=fun g hx=>(hka.sub g hx).elim (hne g) fun h' =>by omega
   have hla:Wa.heap[w.heap.size+1]? =some (.loop (rec .ready none)):=(hka.chg.block _ hlt (fun hx=>(hne _ hx).2 rfl)).trans hl
   have hkk:Wa.heap[w.heap.size]? =some (.deferred (some [])):=(hka.chg.block _ (by omega) (fun hx=>(hne _ hx).1 rfl)).trans hk
   have hlta:w.heap.size+1<Wa.heap.size:=(Array.getElem?_eq_some_iff.1 hla).1
   refine⟨_,run_beginRound hla (by rw[hrec]), ?_⟩
   have hcb:Chg (fun g=>¬X Wa g) Wa (Wa.putObj (w.heap.size+1) (.loop { rec .ready none with state:= .busy })):=Ee _ _ _ (fun hx=>(hna _ hx).2 rfl)
   obtain⟨hib,hxb⟩:=hI.abide pre Wa _ hia hcb
   have hl2:(Wa.putObj (w.heap.size+1) (.loop { rec .ready none with state:= .busy })).heap[w.heap.size+1]? =some (.loop { rec .ready none with state:= .busy }):=World.putObj_heap_same hlta
   have hk2:(Wa.putObj (w.heap.size+1) (.loop { rec .ready none with state:= .busy })).heap[w.heap.size]? =some (.deferred (some [])):=(World.putObj_heap_other (by omega)).trans hkk
   have kxa:Kx (fun W g=>X W g∨g=w.heap.size∨g=w.heap.size+1) W (Wa.putObj (w.heap.size+1) (.loop { rec .ready none with state:= .busy })):=
    ⟨(hka.chg.mono fun g _ hx=> .inl hx).trans (Ee (F:=fun g=>g=w.heap.size+1) _ _ _ rfl) (fun g _ e=> .inr (.inr e)),fun g hx=>by
     rcases hx with hx|hx|hx
     ·exact(hka.sub g ((hxb g).1 hx)).elim (fun h=> .inl (.inl h)) .inr
     ·exact .inl (.inr (.inl hx))
     ·exact .inl (.inr (.inr hx))⟩
   refine wpIn_mono (hbody _ pre x a' _ hib (hAx x a' _ _ _ _ hax hla rfl) hpre) ?_
   have fin:∀(jump:Option Code) (xs:List α) (I' :List α ->World->Prop) (W3:World),Cl X I' ->I' xs W3->Kx X (Wa.putObj (w.heap.size+1) (.loop { rec .ready none with state:= .busy })) W3→
     (Instr.endRound (w.heap.size+1) jump).run P W3= .ok (.bool jump.isNone) (W3.putObj (w.heap.size+1) (.loop (rec (if jump.isNone then .ready else .done) jump)))∧
     (I' xs (W3.putObj (w.heap.size+1) (.loop (rec (if jump.isNone then .ready else .done) jump)))/\(W3.putObj (w.heap.size+1) (.loop (rec (if jump.isNone then .ready else .done) jump))).heap[w.heap.size+1]? =some (.loop (rec (if jump.isNone then .ready else .done) jump))∧
     (W3.putObj (w.heap.size+1) (.loop (rec (if jump.isNone then .ready else .done) jump))).heap[w.heap.size]? =some (.deferred (some []))/\∀g,X (W3.putObj (w.heap.size+1) (.loop (rec (if jump.isNone then .ready else .done) jump))) g->g≠w.heap.size/\g≠w.heap.size+1)∧
     Kx (fun W g=>X W g∨g=w.heap.size∨g=w.heap.size+1) W (W3.putObj (w.heap.size+1) (.loop (rec (if jump.isNone then .ready else .done) jump))):=fun jump xs I' W3 hI' hi3 hk3=>by
    have hn2:∀g,X (Wa.putObj (w.heap.size+1) (.loop { rec .ready none with state:= .busy })) g->g≠w.heap.size/\g≠w.heap.size+1:=fun g hx=>hna g ((hxb g).1 hx)
    have hl3:W3.heap[w.heap.size+1]? =some (.loop { rec .ready none with state:= .busy }):=(hk3.chg.block _ (by simp;omega) (fun hx=>(hn2 _ hx).2 rfl)).trans hl2
    have hk4:W3.heap[w.heap.size]? =some (.deferred (some [])):=(hk3.chg.block _ (by simp;omega) (fun hx=>(hn2 _ hx).1 rfl)).trans hk2
    have hn3:∀g,X W3 g->g≠w.heap.size/\g≠w.heap.size+1:=fun g hx=>(hk3.sub g hx).elim (hn2 g) fun h' =>by simp at h';omega
    have he:=run_endRound (P:=P) jump hl3
    obtain⟨hi4,hx4⟩:=hI'.abide xs W3 (W3.putObj (w.heap.size+1) (.loop (rec (if jump.isNone then .ready else .done) jump))) hi3 (Ee _ _ _ (fun hx=>(hn3 _ hx).2 rfl))
    refine⟨by rw[hrec] at he ⊢;exact he,⟨hi4,World.putObj_heap_same (Array.getElem?_eq_some_iff.1 hl3).1,(World.putObj_heap_other (by omega)).trans hk4,fun g hx=>hn3 g ((hx4 g).1 hx)⟩, ?_⟩
    refine kxa.trans ⟨(hk3.chg.mono fun g _ hx=> .inl hx).trans (Ee (F:=fun g=>g=w.heap.size+1) _ _ _ rfl) (fun g _ e=> .inr (.inr e)),fun g hx=> ?_⟩
    rcases hx with hx|hx|hx
    ·exact(hk3.sub g ((hx4 g).1 hx)).elim (fun h=> .inl (.inl h)) .inr
    ·exact .inl (.inr (.inl hx))
    ·exact .inl (.inr (.inr hx))
   rintro e a3 W3 hp
   cases e with
   |normal=>
    obtain⟨hr,hj,hkx⟩:=fin none _ I W3 hI hp.1 hp.2
    exact⟨_,_,hr, .inl ⟨rfl,hj,hkx⟩⟩
   |ret=>
    obtain⟨hr,hj,hkx⟩:=fin (some .ret) _ (Ix .ret) W3 (hIx _) hp.1 hp.2
    exact⟨_,_,hr, .inr ⟨rfl,⟨.ret,hj⟩,hkx⟩⟩
   |exit id=>
    obtain⟨hr,hj,hkx⟩:=fin (some (.exit id)) _ (Ix (.exit id)) W3 (hIx _) hp.1 hp.2
    exact⟨_,_,hr, .inr ⟨rfl,⟨.exit id,hj⟩,hkx⟩⟩
   |goto t=>
    obtain⟨hr,hj,hkx⟩:=fin (some (.goto t)) _ (Ix (.goto t)) W3 (hIx _) hp.1 hp.2
    exact⟨_,_,hr, .inr ⟨rfl,⟨.goto t,hj⟩,hkx⟩⟩
   |panic ch=>exact hp.elim
   |outgrown=>exact hp.elim
  ·-- BEHIND THE ITERATOR
   rintro e W2 ⟨⟨v,rfl⟩,hh,hkx⟩
   have kend:∀(o:Obj) (hx:∀g,X (W2.putObj (w.heap.size+1) o) g↔X W2 g),Kx X w (W2.putObj (w.heap.size+1) o):=fun o hx=>by
    refine⟨⟨hkx.chg.os.trans (hc1 (fun _=>False)).os,hkx.chg.tape.trans (hc1 (fun _=>False)).tape,hkx.chg.output.trans (hc1 (fun _=>False)).output, ?_,fun g hg' hn=> ?_⟩,fun g hx' => ?_⟩
    ·have:=hkx.chg.size;simp;omega
    ·rw[World.putObj_heap_other (by omega),hkx.chg.block g (by omega) (fun hx' =>by
      rcases hx' with hx' | h' | h'
      ·exact hn ((hi1.2 g).1 hx')
      ·omega
      ·omega)]
     exact(hc1 (fun _=>False)).block g hg' (fun h=>h)
    ·rcases hkx.sub g (.inl ((hx g).1 hx')) with(h' | h' | h')|h'
     ·exact .inl ((hi1.2 g).1 h')
     ·exact .inr (by omega)
     ·exact .inr (by omega)
     ·exact .inr (by omega)
   rcases hh with⟨hi,hl,hk,hne⟩|⟨pre,hpre,c,hi,hl,hk,hne⟩
   ·obtain⟨hi4,hx4⟩:=hI.abide L W2 (W2.putObj (w.heap.size+1) (.loop { rec .ready none with state:= .exhausted })) hi (Ee _ _ _ (fun hx=>(hne _ hx).2 rfl))
    exact⟨none,_,by have:=run_endLoop (P:=P) hl (by rw[hrec];simp);rw[hrec] at this;exact this,by
     have:=hdone w.heap.size _ (Nat.le_refl _) hi4 (kend _ hx4) ((World.putObj_heap_other (by omega)).trans hk) (fun hx=>(hne _ ((hx4 _).1 hx)).1 rfl)
     rw[hrec] at this
     exact this⟩
   ·obtain⟨hi4,hx4⟩:=(hIx c).abide pre W2 (W2.putObj (w.heap.size+1) (.loop { rec .done (some c) with state:= .exhausted })) hi (Ee _ _ _ (fun hx=>(hne _ hx).2 rfl))
    exact⟨some c,_,by have:=run_endLoop (P:=P) hl (by rw[hrec];simp);rw[hrec] at this;exact this,by
     have:=hstop w.heap.size c pre _ (Nat.le_refl _) hpre hi4 (kend _ hx4) ((World.putObj_heap_other (by omega)).trans hk) (fun hx=>(hne _ ((hx4 _).1 hx)).1 rfl)
     rw[hrec] at this
     exact this⟩
end
end Go.Proofs.YtadmomgdacfgpaaGreat
