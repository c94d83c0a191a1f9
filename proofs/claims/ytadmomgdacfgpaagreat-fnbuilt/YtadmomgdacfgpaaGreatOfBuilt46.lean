/-
  The program's Inject.
  What an argument that is a list of pairs holds: opened once into a row of cells.
  What an argument that is a row of bytes holds: opened once into a row of cells.
-/
import Derived.Test.YtadmomgdacfgpaaGreatOfBuilt44
import Derived.Test.YtadmomgdacfgpaaGreatOfBuilt45
import Derived.Test.YtadmomgdacfgpaaGreatOfBuilt1
import Derived.ProofKit
import Derived.Deep.SlicePairs
import Derived.Test.YtadmomgdacfgpaaGreatOfBuilt3
import Derived.ChangeSlices
namespace Go.Proofs.YtadmomgdacfgpaaGreat
set_option maxRecDepth 100000
set_option maxHeartbeats 8000000
section
open Go.RowKit

theorem VE (args:Array Value) (w:World):(callFunc 31 args).run Tryz.prog w= .ok (.enter 31 args) w:=by go_simp
def FG (u:World) (B:Nat) (A:Array Value):Prop:=u.heap[B]? =some (.cells A 35 (0,0))
theorem FG.start (w:World) (A:Array Value):FG (w.alloc (.cells A 35)) w.heap.size A:=heap_alloc_new w _
theorem FG.step {u w' :World} {B:Nat} {A:Array Value} (h:FG u B A) (hb:Below u.heap.size u w'):FG w' B A:=(hb.block B (Array.getElem?_eq_some_iff.1 h).1).trans h
theorem FG.cells {u:World} {B:Nat} {A:Array Value} (h:FG u B A):∀j,u.cell? ⟨B,j,none⟩=A[j]? :=fun j=>cell_of_row u B j A 35 (0,0) h
theorem FG.chg {w w' :World} {L:Nat} {A:Array Value} {p:Nat->Prop} (h:FG w L A) (hc:Chg p w w') (hp:¬p L):FG w' L A:=(hc.block L (Array.getElem?_eq_some_iff.1 h).1 hp).trans h

theorem La (n:Nat) (hn:7<=n) (x:TV) (T:Tr) (F:Nat->Prop) (o k v:Int) (w:World) (h:Au n w F x T) (hs:AU n T<=1048576) :
  Calls Tryz.prog 9 #[x.val, .agg #[.int .i64 o, .int .i64 k, .int .i64 v]] w fun e w' =>∃y:TV,e= .returned y.val/\Au n w' (fun g=>w.heap.size<=g) y (EK T (o,k,v))/\Below w.heap.size w w' :=by
 obtain⟨dl,dP,dQ,dR,dS⟩:=x
 obtain⟨d1,d2,d3,d4,d5,d6,d7,d8,d9,da,db,dc,hxd⟩:=h.treeF.slices
 simp only[TV.mk.injEq,true_and] at hxd
 obtain⟨hxd1,hxd2,hxd3,hxd4⟩:=hxd
 subst hxd1 hxd2 hxd3 hxd4;have OK:=hid (fun u (hu:Below w.heap.size w u)=>DU n (TV.mk dl (.slice d1 d5 d9) (.slice d2 d6 da) (.slice d3 d7 db) (.slice d4 d8 dc)) T u (h.treeF.treeAt.below hu))
 have OM:=hid (fun u=>Di o k v u)
 have C2:=hid (fun u (hu:Below w.heap.size w u)=>F7 true n (TV.mk dl (.slice d1 d5 d9) (.slice d2 d6 da) (.slice d3 d7 db) (.slice d4 d8 dc)) T F u ⟨fun _=>h.below hu,(h.below hu).treeF⟩ hs (fun e=>by cases e))
 have BW:Hid (Below w.heap.size w (((w.alloc (.cells #[.bool dl, .slice d1 d5 d9, .slice d2 d6 da, .slice d3 d7 db, .slice d4 d8 dc] 30)).alloc (.cells #[.int .i64 o, .int .i64 k, .int .i64 v] 35)).alloc (.cells #[.bool false, .slice none 0 0, .slice none 0 0, .slice none 0 0, .slice none 0 0] 30))/\Bi (((w.alloc (.cells #[.bool dl, .slice d1 d5 d9, .slice d2 d6 da, .slice d3 d7 db, .slice d4 d8 dc] 30)).alloc (.cells #[.int .i64 o, .int .i64 k, .int .i64 v] 35)).alloc (.cells #[.bool false, .slice none 0 0, .slice none 0 0, .slice none 0 0, .slice none 0 0] 30)) (w.heap.size) #[.bool dl, .slice d1 d5 d9, .slice d2 d6 da, .slice d3 d7 db, .slice d4 d8 dc]/\FG (((w.alloc (.cells #[.bool dl, .slice d1 d5 d9, .slice d2 d6 da, .slice d3 d7 db, .slice d4 d8 dc] 30)).alloc (.cells #[.int .i64 o, .int .i64 k, .int .i64 v] 35)).alloc (.cells #[.bool false, .slice none 0 0, .slice none 0 0, .slice none 0 0, .slice none 0 0] 30)) (w.heap.size+1) #[.int .i64 o, .int .i64 k, .int .i64 v]/\Bi (((w.alloc (.cells #[.bool dl, .slice d1 d5 d9, .slice d2 d6 da, .slice d3 d7 db, .slice d4 d8 dc] 30)).alloc (.cells #[.int .i64 o, .int .i64 k, .int .i64 v] 35)).alloc (.cells #[.bool false, .slice none 0 0, .slice none 0 0, .slice none 0 0, .slice none 0 0] 30)) (w.heap.size+1+1) #[.bool false, .slice none 0 0, .slice none 0 0, .slice none 0 0, .slice none 0 0]):=by
  have e:∀(x:World) (o:Obj),(x.alloc o).heap.size=x.heap.size+1:=fun x o=>by simp
  refine⟨Below.and (al1 _ _) (Below.and (al1 _ _) (al1 _ _)),((Bi.start w _).step (al1 _ _)).step (al1 _ _), ?_, ?_⟩
  ·have:=(FG.start (w.alloc (.cells #[.bool dl, .slice d1 d5 d9, .slice d2 d6 da, .slice d3 d7 db, .slice d4 d8 dc] 30)) #[.int .i64 o, .int .i64 k, .int .i64 v]).step (al1 _ (.cells #[.bool false, .slice none 0 0, .slice none 0 0, .slice none 0 0, .slice none 0 0] 30))
   rw[e] at this
   exact this
  ·have:=Bi.start ((w.alloc (.cells #[.bool dl, .slice d1 d5 d9, .slice d2 d6 da, .slice d3 d7 db, .slice d4 d8 dc] 30)).alloc (.cells #[.int .i64 o, .int .i64 k, .int .i64 v] 35)) #[.bool false, .slice none 0 0, .slice none 0 0, .slice none 0 0, .slice none 0 0]
   rw[e,e] at this
   exact this
 have HH:Hid _:=h
 clear h;show Calls Tryz.prog 9 #[.agg #[.bool dl, .slice d1 d5 d9, .slice d2 d6 da, .slice d3 d7 db, .slice d4 d8 dc], .agg #[.int .i64 o, .int .i64 k, .int .i64 v]] w _
 have c1:=BW.out.2.1.cells
 by_cases hok:okT T=true
 rotate_left
 ·have hok2:okT T=false:=by simpa using hok
  rw[show EK T (o,k,v)=T by rw[EK,if_neg (fun h=>hok h.1)]]
  rw[hok2] at OK
  go_enter Tryz.func9,Tryz.ntmps9
  go_wp2_with fail;generalize (((w.alloc (.cells #[.bool dl, .slice d1 d5 d9, .slice d2 d6 da, .slice d3 d7 db, .slice d4 d8 dc] 30)).alloc (.cells #[.int .i64 o, .int .i64 k, .int .i64 v] 35)).alloc (.cells #[.bool false, .slice none 0 0, .slice none 0 0, .slice none 0 0, .slice none 0 0] 30))=W0 at *
  refine(OK.out _ BW.out.1).mono ?_
  rintro e w1 ⟨rfl,b1⟩
  obtain⟨p0,p1,p2,p3⟩:=BW.out
  have BX:Hid (Below w.heap.size w w1/\Bi w1 (w.heap.size) #[.bool dl, .slice d1 d5 d9, .slice d2 d6 da, .slice d3 d7 db, .slice d4 d8 dc]/\FG w1 (w.heap.size+1) #[.int .i64 o, .int .i64 k, .int .i64 v]/\Bi w1 (w.heap.size+1+1) #[.bool false, .slice none 0 0, .slice none 0 0, .slice none 0 0, .slice none 0 0]):=⟨Below.and p0 b1,p1.step b1,p2.step b1,p3.step b1⟩
  clear p0 p1 p2 p3 b1 BW c1;have c1:=BX.out.2.1.cells
  have hlt:=BX.out.2.2.2.lt
  go_wp2_with fail;refine(C2.out _ BX.out.1).mono ?_
  rintro e w2 ⟨y,rfl,ty,b2⟩
  have bz:Bi w2 (w.heap.size+1+1) #[.bool false, .slice none 0 0, .slice none 0 0, .slice none 0 0, .slice none 0 0]:=BX.out.2.2.2.step b2
  have bw:=Below.and BX.out.1 b2
  clear BX c1 OK OM C2 b2 HH;obtain⟨yl,yP,yQ,yR,yS⟩:=y
  obtain⟨y1,y2,y3,y4,y5,y6,y7,y8,y9,ya,yb,yc,hxy⟩:=ty.treeF.slices
  simp only[TV.mk.injEq,true_and] at hxy
  obtain⟨hxy1,hxy2,hxy3,hxy4⟩:=hxy
  subst hxy1 hxy2 hxy3 hxy4;have z8c:=bz.cells
  have z9:=bz.free
  have Z0:=(bz.set5 (.bool yl) (.slice y1 y5 y9) (.slice y2 y6 ya) (.slice y3 y7 yb) (.slice y4 y8 yc)).cells
  have FIN:Hid (Au n (Ho w2 (w.heap.size+1+1) (.bool yl) (.slice y1 y5 y9) (.slice y2 y6 ya) (.slice y3 y7 yb) (.slice y4 y8 yc)) (fun g=>w.heap.size<=g) (TV.mk yl (.slice y1 y5 y9) (.slice y2 y6 ya) (.slice y3 y7 yb) (.slice y4 y8 yc)) T/\Below w.heap.size w (Ho w2 (w.heap.size+1+1) (.bool yl) (.slice y1 y5 y9) (.slice y2 y6 ya) (.slice y3 y7 yb) (.slice y4 y8 yc))):=
   ⟨(ty.chg (DT w2 (w.heap.size+1+1) _ _ _ _ _) (fun g hg e=>by omega)).mono (fun g hg=>by omega),Dy bw (by omega) _ _ _ _ _⟩
  have HZ2:Hid _:=Z0
  clear Z0 ty;go_wp2;have Z:=HZ2.out
  refine bodyPost_ret (v:= .agg #[.bool yl, .slice y1 y5 y9, .slice y2 y6 ya, .slice y3 y7 yb, .slice y4 y8 yc]) (by simp[results,Tryz.results9,go_sem,Z]) rfl ⟨(TV.mk yl (.slice y1 y5 y9) (.slice y2 y6 ya) (.slice y3 y7 yb) (.slice y4 y8 yc)),rfl,FIN.out.1,FIN.out.2⟩
 rw[hok] at OK
 by_cases hmo:AO o k v=true
 rotate_left
 ·have hmo2:AO o k v=false:=by simpa using hmo
  rw[show EK T (o,k,v)=T by rw[EK,if_neg (fun h=>hmo h.2.1)]]
  rw[hmo2] at OM
  go_enter Tryz.func9,Tryz.ntmps9
  go_wp2_with fail;generalize (((w.alloc (.cells #[.bool dl, .slice d1 d5 d9, .slice d2 d6 da, .slice d3 d7 db, .slice d4 d8 dc] 30)).alloc (.cells #[.int .i64 o, .int .i64 k, .int .i64 v] 35)).alloc (.cells #[.bool false, .slice none 0 0, .slice none 0 0, .slice none 0 0, .slice none 0 0] 30))=W0 at *
  refine(OK.out _ BW.out.1).mono ?_
  rintro e w1 ⟨rfl,b1⟩
  obtain⟨p0,p1,p2,p3⟩:=BW.out
  have BX:Hid (Below w.heap.size w w1/\Bi w1 (w.heap.size) #[.bool dl, .slice d1 d5 d9, .slice d2 d6 da, .slice d3 d7 db, .slice d4 d8 dc]/\FG w1 (w.heap.size+1) #[.int .i64 o, .int .i64 k, .int .i64 v]/\Bi w1 (w.heap.size+1+1) #[.bool false, .slice none 0 0, .slice none 0 0, .slice none 0 0, .slice none 0 0]):=⟨Below.and p0 b1,p1.step b1,p2.step b1,p3.step b1⟩
  clear p0 p1 p2 p3 b1 BW c1;have c2:=BX.out.2.2.1.cells
  go_wp2_with fail;refine(OM.out _).mono ?_
  rintro e w1b ⟨rfl,b1⟩
  obtain⟨p0,p1,p2,p3⟩:=BX.out
  replace BX:Hid (Below w.heap.size w w1b/\Bi w1b (w.heap.size) #[.bool dl, .slice d1 d5 d9, .slice d2 d6 da, .slice d3 d7 db, .slice d4 d8 dc]/\FG w1b (w.heap.size+1) #[.int .i64 o, .int .i64 k, .int .i64 v]/\Bi w1b (w.heap.size+1+1) #[.bool false, .slice none 0 0, .slice none 0 0, .slice none 0 0, .slice none 0 0]):=⟨Below.and p0 b1,p1.step b1,p2.step b1,p3.step b1⟩
  clear p0 p1 p2 p3 b1 c2;have c1:=BX.out.2.1.cells
  have hlt:=BX.out.2.2.2.lt
  go_wp2_with fail;refine(C2.out _ BX.out.1).mono ?_
  rintro e w2 ⟨y,rfl,ty,b2⟩
  have bz:Bi w2 (w.heap.size+1+1) #[.bool false, .slice none 0 0, .slice none 0 0, .slice none 0 0, .slice none 0 0]:=BX.out.2.2.2.step b2
  have bw:=Below.and BX.out.1 b2
  clear BX c1 OK OM C2 b2 HH;obtain⟨yl,yP,yQ,yR,yS⟩:=y
  obtain⟨y1,y2,y3,y4,y5,y6,y7,y8,y9,ya,yb,yc,hxy⟩:=ty.treeF.slices
  simp only[TV.mk.injEq,true_and] at hxy
  obtain⟨hxy1,hxy2,hxy3,hxy4⟩:=hxy
  subst hxy1 hxy2 hxy3 hxy4;have z8c:=bz.cells
  have z9:=bz.free
  have Z0:=(bz.set5 (.bool yl) (.slice y1 y5 y9) (.slice y2 y6 ya) (.slice y3 y7 yb) (.slice y4 y8 yc)).cells
  have FIN:Hid (Au n (Ho w2 (w.heap.size+1+1) (.bool yl) (.slice y1 y5 y9) (.slice y2 y6 ya) (.slice y3 y7 yb) (.slice y4 y8 yc)) (fun g=>w.heap.size<=g) (TV.mk yl (.slice y1 y5 y9) (.slice y2 y6 ya) (.slice y3 y7 yb) (.slice y4 y8 yc)) T/\Below w.heap.size w (Ho w2 (w.heap.size+1+1) (.bool yl) (.slice y1 y5 y9) (.slice y2 y6 ya) (.slice y3 y7 yb) (.slice y4 y8 yc))):=
   ⟨(ty.chg (DT w2 (w.heap.size+1+1) _ _ _ _ _) (fun g hg e=>by omega)).mono (fun g hg=>by omega),Dy bw (by omega) _ _ _ _ _⟩
  have HZ2:Hid _:=Z0
  clear Z0 ty;go_wp2;have Z:=HZ2.out
  refine bodyPost_ret (v:= .agg #[.bool yl, .slice y1 y5 y9, .slice y2 y6 ya, .slice y3 y7 yb, .slice y4 y8 yc]) (by simp[results,Tryz.results9,go_sem,Z]) rfl ⟨(TV.mk yl (.slice y1 y5 y9) (.slice y2 y6 ya) (.slice y3 y7 yb) (.slice y4 y8 yc)),rfl,FIN.out.1,FIN.out.2⟩
 rw[hmo] at OM
 by_cases h4:o=4
 ·have h4b:(o==4)=true:=by simp[h4]
  rw[show EK T (o,k,v)=T by rw[EK,if_neg (fun h=>h.2.2 h4)]]
  clear h4;go_enter Tryz.func9,Tryz.ntmps9
  go_wp2_with fail;generalize (((w.alloc (.cells #[.bool dl, .slice d1 d5 d9, .slice d2 d6 da, .slice d3 d7 db, .slice d4 d8 dc] 30)).alloc (.cells #[.int .i64 o, .int .i64 k, .int .i64 v] 35)).alloc (.cells #[.bool false, .slice none 0 0, .slice none 0 0, .slice none 0 0, .slice none 0 0] 30))=W0 at *
  refine(OK.out _ BW.out.1).mono ?_
  rintro e w1 ⟨rfl,b1⟩
  obtain⟨p0,p1,p2,p3⟩:=BW.out
  have BX:Hid (Below w.heap.size w w1/\Bi w1 (w.heap.size) #[.bool dl, .slice d1 d5 d9, .slice d2 d6 da, .slice d3 d7 db, .slice d4 d8 dc]/\FG w1 (w.heap.size+1) #[.int .i64 o, .int .i64 k, .int .i64 v]/\Bi w1 (w.heap.size+1+1) #[.bool false, .slice none 0 0, .slice none 0 0, .slice none 0 0, .slice none 0 0]):=⟨Below.and p0 b1,p1.step b1,p2.step b1,p3.step b1⟩
  clear p0 p1 p2 p3 b1 BW c1;have c2:=BX.out.2.2.1.cells
  go_wp2_with fail;refine(OM.out _).mono ?_
  rintro e w1b ⟨rfl,b1⟩
  obtain⟨p0,p1,p2,p3⟩:=BX.out
  replace BX:Hid (Below w.heap.size w w1b/\Bi w1b (w.heap.size) #[.bool dl, .slice d1 d5 d9, .slice d2 d6 da, .slice d3 d7 db, .slice d4 d8 dc]/\FG w1b (w.heap.size+1) #[.int .i64 o, .int .i64 k, .int .i64 v]/\Bi w1b (w.heap.size+1+1) #[.bool false, .slice none 0 0, .slice none 0 0, .slice none 0 0, .slice none 0 0]):=⟨Below.and p0 b1,p1.step b1,p2.step b1,p3.step b1⟩
  clear p0 p1 p2 p3 b1 c2;have c1:=BX.out.2.1.cells
  have c2:=BX.out.2.2.1.cells
  have hlt:=BX.out.2.2.2.lt
  go_wp2_with fail;refine(C2.out _ BX.out.1).mono ?_
  rintro e w2 ⟨y,rfl,ty,b2⟩
  have bz:Bi w2 (w.heap.size+1+1) #[.bool false, .slice none 0 0, .slice none 0 0, .slice none 0 0, .slice none 0 0]:=BX.out.2.2.2.step b2
  have bw:=Below.and BX.out.1 b2
  clear BX c1 c2 OK OM C2 b2 HH;obtain⟨yl,yP,yQ,yR,yS⟩:=y
  obtain⟨y1,y2,y3,y4,y5,y6,y7,y8,y9,ya,yb,yc,hxy⟩:=ty.treeF.slices
  simp only[TV.mk.injEq,true_and] at hxy
  obtain⟨hxy1,hxy2,hxy3,hxy4⟩:=hxy
  subst hxy1 hxy2 hxy3 hxy4;have z8c:=bz.cells
  have z9:=bz.free
  have Z0:=(bz.set5 (.bool yl) (.slice y1 y5 y9) (.slice y2 y6 ya) (.slice y3 y7 yb) (.slice y4 y8 yc)).cells
  have FIN:Hid (Au n (Ho w2 (w.heap.size+1+1) (.bool yl) (.slice y1 y5 y9) (.slice y2 y6 ya) (.slice y3 y7 yb) (.slice y4 y8 yc)) (fun g=>w.heap.size<=g) (TV.mk yl (.slice y1 y5 y9) (.slice y2 y6 ya) (.slice y3 y7 yb) (.slice y4 y8 yc)) T/\Below w.heap.size w (Ho w2 (w.heap.size+1+1) (.bool yl) (.slice y1 y5 y9) (.slice y2 y6 ya) (.slice y3 y7 yb) (.slice y4 y8 yc))):=
   ⟨(ty.chg (DT w2 (w.heap.size+1+1) _ _ _ _ _) (fun g hg e=>by omega)).mono (fun g hg=>by omega),Dy bw (by omega) _ _ _ _ _⟩
  have HZ2:Hid _:=Z0
  clear Z0 ty;go_wp2;have Z:=HZ2.out
  refine bodyPost_ret (v:= .agg #[.bool yl, .slice y1 y5 y9, .slice y2 y6 ya, .slice y3 y7 yb, .slice y4 y8 yc]) (by simp[results,Tryz.results9,go_sem,Z]) rfl ⟨(TV.mk yl (.slice y1 y5 y9) (.slice y2 y6 ya) (.slice y3 y7 yb) (.slice y4 y8 yc)),rfl,FIN.out.1,FIN.out.2⟩
 ·have h4b:(o==4)=false:=by simp[h4]
  have h7:=L7 hok
  have GV:Hid (∀u vm,Below w.heap.size w u->Row u vm 1 (Af [(o,k,v)])->Calls Tryz.prog 31 #[.agg #[.bool dl, .slice d1 d5 d9, .slice d2 d6 da, .slice d3 d7 db, .slice d4 d8 dc],vm] u fun e w' =>∃v1 v2,e= .returned (.agg #[v1,v2])/\Ah (Av T) w' (fun b=>F b∨u.heap.size<=b) v1 (Ae (Av T) T [(o,k,v)]).1/\Ao w' (fun b=>F b∨u.heap.size<=b) v2 (Ae (Av T) T [(o,k,v)]).2.length (Ad (Ae (Av T) T [(o,k,v)]).2)/\Below u.heap.size u w'):=fun u vm hu hr=>Nm (Av T) F (TV.mk dl (.slice d1 d5 d9) (.slice d2 d6 da) (.slice d3 d7 db) (.slice d4 d8 dc)) T vm [(o,k,v)] 0 1000 u (Aw.down h7.1 (HH.out.below hu).treeF) hr (Vy hok) (fun m hm=>by
   rw[List.mem_singleton] at hm
   subst hm;have:=C5 hmo
   exact⟨⟨hmo,h4⟩,this.2.1.1,by have:=this.2.1.2;simp only;omega⟩) (by simp) (by have:=h7.2.2;simp only[List.length_cons,List.length_nil];omega)
  have hmo' :=Ca (Av T) T [(o,k,v)] h7.1 (by simp)
  have hln:=BE hmo'.1.2
  have hl2:=hmo'.2
  simp only[List.length_cons,List.length_nil] at hl2
  have RT:Hid (∀(u:World) (F' :Nat->Prop) (v1 v2:Value),Ah (Av T) u F' v1 (Ae (Av T) T [(o,k,v)]).1->Ao u F' v2 (Ae (Av T) T [(o,k,v)]).2.length (Ad (Ae (Av T) T [(o,k,v)]).2)->Calls Tryz.prog 30 #[.agg #[v1,v2]] u fun e w' =>∃x:TV,e= .returned x.val/\Aw ((Av T)+(Ae (Av T) T [(o,k,v)]).1.length) w' (fun b=>F' b∨u.heap.size<=b) x (Et (Ae (Av T) T [(o,k,v)]))/\Below u.heap.size u w'):=fun u F' v1 v2 h1 h2=>Of (Av T) F' v1 v2 (Ae (Av T) T [(o,k,v)]) u h1 h2 hmo'.1 (by omega)
  have CE:Hid (∀(u:World) (x1:TV) (F1:Nat->Prop),Below w.heap.size w u->Aw ((Av T)+(Ae (Av T) T [(o,k,v)]).1.length) u F1 x1 (Et (Ae (Av T) T [(o,k,v)]))->Calls Tryz.prog 29 #[x1.val, .agg #[.bool dl, .slice d1 d5 d9, .slice d2 d6 da, .slice d3 d7 db, .slice d4 d8 dc]] u fun e w' =>∃y:TV,e= .returned y.val/\Au n w' (fun g=>u.heap.size<=g) y (EK T (o,k,v))/\Below u.heap.size u w'):=fun u x1 F1 hu h1=>by
   have:=JR _ n hn x1 (TV.mk dl (.slice d1 d5 d9) (.slice d2 d6 da) (.slice d3 d7 db) (.slice d4 d8 dc)) (Et (Ae (Av T) T [(o,k,v)])) T F1 F u h1 (HH.out.below hu) hs
   rw[EK,if_pos ⟨hok,hmo,h4⟩]
   exact this
  clear h7 hmo' hln hl2 HH C2 h4;generalize EK T (o,k,v)=T2 at *
  generalize (Av T)+(Ae (Av T) T [(o,k,v)]).1.length=N1 at *
  generalize Et (Ae (Av T) T [(o,k,v)])=T1 at *
  generalize (Ae (Av T) T [(o,k,v)])=MM at *
  generalize (Av T)=D at *
  go_enter Tryz.func9,Tryz.ntmps9
  go_wp2_with fail;generalize (((w.alloc (.cells #[.bool dl, .slice d1 d5 d9, .slice d2 d6 da, .slice d3 d7 db, .slice d4 d8 dc] 30)).alloc (.cells #[.int .i64 o, .int .i64 k, .int .i64 v] 35)).alloc (.cells #[.bool false, .slice none 0 0, .slice none 0 0, .slice none 0 0, .slice none 0 0] 30))=W0 at *
  refine(OK.out _ BW.out.1).mono ?_
  rintro e w1 ⟨rfl,b1⟩
  obtain⟨p0,p1,p2,p3⟩:=BW.out
  have BX:Hid (Below w.heap.size w w1/\Bi w1 (w.heap.size) #[.bool dl, .slice d1 d5 d9, .slice d2 d6 da, .slice d3 d7 db, .slice d4 d8 dc]/\FG w1 (w.heap.size+1) #[.int .i64 o, .int .i64 k, .int .i64 v]/\Bi w1 (w.heap.size+1+1) #[.bool false, .slice none 0 0, .slice none 0 0, .slice none 0 0, .slice none 0 0]):=⟨Below.and p0 b1,p1.step b1,p2.step b1,p3.step b1⟩
  clear p0 p1 p2 p3 b1 BW c1;have c2:=BX.out.2.2.1.cells
  go_wp2_with fail;refine(OM.out _).mono ?_
  rintro e w1b ⟨rfl,b1⟩
  obtain⟨p0,p1,p2,p3⟩:=BX.out
  replace BX:Hid (Below w.heap.size w w1b/\Bi w1b (w.heap.size) #[.bool dl, .slice d1 d5 d9, .slice d2 d6 da, .slice d3 d7 db, .slice d4 d8 dc]/\FG w1b (w.heap.size+1) #[.int .i64 o, .int .i64 k, .int .i64 v]/\Bi w1b (w.heap.size+1+1) #[.bool false, .slice none 0 0, .slice none 0 0, .slice none 0 0, .slice none 0 0]):=⟨Below.and p0 b1,p1.step b1,p2.step b1,p3.step b1⟩
  clear p0 p1 p2 p3 b1 c2;have c2:=BX.out.2.2.1.cells
  go_wp2_with fail;clear c2;replace BX:Hid (Below w.heap.size w w1b.drew/\Bi w1b.drew (w.heap.size) #[.bool dl, .slice d1 d5 d9, .slice d2 d6 da, .slice d3 d7 db, .slice d4 d8 dc]/\FG w1b.drew (w.heap.size+1) #[.int .i64 o, .int .i64 k, .int .i64 v]/\Bi w1b.drew (w.heap.size+1+1) #[.bool false, .slice none 0 0, .slice none 0 0, .slice none 0 0, .slice none 0 0]):=⟨BX.out.1.drew,BX.out.2.1.step (Below.refl _ _).drew,BX.out.2.2.1.step (Below.refl _ _).drew,BX.out.2.2.2.step (Below.refl _ _).drew⟩
  refine wp_region_held_drew (S:=fun u=>(∀j,u.cell? ⟨w.heap.size,j,none⟩= #[.bool dl, .slice d1 d5 d9, .slice d2 d6 da, .slice d3 d7 db, .slice d4 d8 dc][j]?)/\∀j,u.cell? ⟨w.heap.size+1,j,none⟩= #[.int .i64 o, .int .i64 k, .int .i64 v][j]?) (by kernel_rfl) ⟨BX.out.2.1.cells,BX.out.2.2.1.cells⟩ (fun hH=> ?_)
  generalize w1b.drew=w2 at *
  refine tk 0 (oi:=⟨_,_,_,_,_,_⟩) (v:= ?_) rfl (by kernel_rfl) (fun _ _ _ h=>h) (Or.inl ⟨by rfl, ?_⟩) (by assumption) ?_
  rotate_left
  ·((intro w hSw;(try dsimp only at hSw);obtain⟨hSa,hSb⟩:=hSw;go_simp);(try with_reducible rfl))
  try simp only[Act.put,sA,sB,sC]
  refine tk 1 (oi:=⟨_,_,_,_,_,_⟩) (v:= ?_) rfl (by kernel_rfl) (fun _ _ _ h=>h) (Or.inl ⟨by rfl, ?_⟩) (by assumption) ?_
  rotate_left
  ·((intro w hSw;(try dsimp only at hSw);obtain⟨hSa,hSb⟩:=hSw;go_simp);(try with_reducible rfl))
  try simp only[Act.put,sA,sB,sC]
  refine tk 5 (oi:=⟨_,_,_,_,_,_⟩) (v:= ?_) rfl (by kernel_rfl) (fun _ _ _ h=>h) (Or.inl ⟨by rfl, ?_⟩) (by assumption) ?_
  rotate_left
  ·((intro w hSw;(try dsimp only at hSw);obtain⟨hSa,hSb⟩:=hSw;go_simp);(try with_reducible rfl))
  try simp only[Act.put,sA,sB,sC]
  refine wpAnyH_ready (rs:=[2]) (by kernel_rfl) (by simp) ?_
  refine AllReadyH.cons (o:=⟨_,_,_,_,_,_⟩) rfl (fun K hK=> ?_) AllReadyH.nil
  go_simp
  replace BX:Hid (Below w.heap.size w (w2.alloc (.cells #[.int .i64 o, .int .i64 k, .int .i64 v] 35))/\Bi (w2.alloc (.cells #[.int .i64 o, .int .i64 k, .int .i64 v] 35)) (w.heap.size) #[.bool dl, .slice d1 d5 d9, .slice d2 d6 da, .slice d3 d7 db, .slice d4 d8 dc]/\FG (w2.alloc (.cells #[.int .i64 o, .int .i64 k, .int .i64 v] 35)) (w.heap.size+1) #[.int .i64 o, .int .i64 k, .int .i64 v]/\Bi (w2.alloc (.cells #[.int .i64 o, .int .i64 k, .int .i64 v] 35)) (w.heap.size+1+1) #[.bool false, .slice none 0 0, .slice none 0 0, .slice none 0 0, .slice none 0 0]):=⟨Below.and BX.out.1 (al1 w2 (.cells #[.int .i64 o, .int .i64 k, .int .i64 v] 35)),BX.out.2.1.step (al1 w2 (.cells #[.int .i64 o, .int .i64 k, .int .i64 v] 35)),BX.out.2.2.1.step (al1 w2 (.cells #[.int .i64 o, .int .i64 k, .int .i64 v] 35)),BX.out.2.2.2.step (al1 w2 (.cells #[.int .i64 o, .int .i64 k, .int .i64 v] 35))⟩
  have RM:Hid (Row (w2.alloc (.cells #[.int .i64 o, .int .i64 k, .int .i64 v] 35)) (.slice (some ⟨w2.heap.size,0,none⟩) 1 1) 1 (Af [(o,k,v)])):=Row.laid w2 (Af [(o,k,v)]) 35 _ rfl
  refine hK.out _ _ (⟨BX.out.2.1.cells,BX.out.2.2.1.cells⟩) (fun hH2=> ?_)
  clear hK K hH;have hH:=hH2
  clear hH2;try simp only[Act.put,sA,sB,sC]
  generalize (w2.alloc (.cells #[.int .i64 o, .int .i64 k, .int .i64 v] 35))=w3 at *
  refine wpAnyH_ready (rs:=[3]) (by kernel_rfl) (by simp) ?_
  refine AllReadyH.cons (o:=⟨_,_,_,_,_,_⟩) rfl (fun K hK=> ?_) AllReadyH.nil
  refine(if_pos (show Region.wanted _ _=true by kernel_rfl)).mpr ?_
  refine KU 31 [.tmp 20, .tmp 22] #[30,24] rfl VE [.agg #[.bool dl, .slice d1 d5 d9, .slice d2 d6 da, .slice d3 d7 db, .slice d4 d8 dc], .slice (some ⟨w2.heap.size,0,none⟩) 1 1] rfl (GV.out _ _ BX.out.1 RM.out) ?_
  rintro e u1 ⟨v1,v2,rfl,t1,t2,b1⟩
  replace BX:Hid (Below w.heap.size w u1/\Bi u1 (w.heap.size) #[.bool dl, .slice d1 d5 d9, .slice d2 d6 da, .slice d3 d7 db, .slice d4 d8 dc]/\FG u1 (w.heap.size+1) #[.int .i64 o, .int .i64 k, .int .i64 v]/\Bi u1 (w.heap.size+1+1) #[.bool false, .slice none 0 0, .slice none 0 0, .slice none 0 0, .slice none 0 0]):=⟨Below.and BX.out.1 b1,BX.out.2.1.step b1,BX.out.2.2.1.step b1,BX.out.2.2.2.step b1⟩
  have HT:Hid _:=And.intro t1 t2
  clear b1 t1 t2 RM;refine⟨_,rfl, ?_⟩
  refine hK.out _ _ (⟨BX.out.2.1.cells,BX.out.2.2.1.cells⟩) (fun hH2=> ?_)
  clear hK K hH;have hH:=hH2
  clear hH2;try simp only[Act.put,sA,sB,sC]
  refine wpAnyH_ready (rs:=[4]) (by kernel_rfl) (by simp) ?_
  refine AllReadyH.cons (o:=⟨_,_,_,_,_,_⟩) rfl (fun K hK=> ?_) AllReadyH.nil
  refine(if_pos (show Region.wanted _ _=true by kernel_rfl)).mpr ?_
  refine KU 30 [.tmp 23] #[65] rfl OH [.agg #[v1,v2]] rfl (RT.out _ _ _ _ HT.out.1 HT.out.2) ?_
  rintro e u2 ⟨x1,rfl,t3,b2⟩
  replace BX:Hid (Below w.heap.size w u2/\Bi u2 (w.heap.size) #[.bool dl, .slice d1 d5 d9, .slice d2 d6 da, .slice d3 d7 db, .slice d4 d8 dc]/\FG u2 (w.heap.size+1) #[.int .i64 o, .int .i64 k, .int .i64 v]/\Bi u2 (w.heap.size+1+1) #[.bool false, .slice none 0 0, .slice none 0 0, .slice none 0 0, .slice none 0 0]):=⟨Below.and BX.out.1 b2,BX.out.2.1.step b2,BX.out.2.2.1.step b2,BX.out.2.2.2.step b2⟩
  have HU:Hid _:=t3
  clear b2 t3 HT;refine⟨_,rfl, ?_⟩
  refine hK.out _ _ (⟨BX.out.2.1.cells,BX.out.2.2.1.cells⟩) (fun hH2=> ?_)
  clear hK K hH;have hH:=hH2
  clear hH2;try simp only[Act.put,sA,sB,sC]
  refine wpAnyH_ready (rs:=[6]) (by kernel_rfl) (by simp) ?_
  refine AllReadyH.cons (o:=⟨_,_,_,_,_,_⟩) rfl (fun K hK=> ?_) AllReadyH.nil
  refine(if_pos (show Region.wanted _ _=true by kernel_rfl)).mpr ?_
  refine KU 29 [.tmp 24, .tmp 25] #[30,30] rfl JG [x1.val, .agg #[.bool dl, .slice d1 d5 d9, .slice d2 d6 da, .slice d3 d7 db, .slice d4 d8 dc]] rfl (CE.out _ _ _ BX.out.1 HU.out) ?_
  rintro e u3 ⟨y,rfl,ty,b3⟩
  have hlt:=BX.out.2.2.2.lt
  replace BX:Hid (Below w.heap.size w u3/\Bi u3 (w.heap.size) #[.bool dl, .slice d1 d5 d9, .slice d2 d6 da, .slice d3 d7 db, .slice d4 d8 dc]/\FG u3 (w.heap.size+1) #[.int .i64 o, .int .i64 k, .int .i64 v]/\Bi u3 (w.heap.size+1+1) #[.bool false, .slice none 0 0, .slice none 0 0, .slice none 0 0, .slice none 0 0]):=⟨Below.and BX.out.1 b3,BX.out.2.1.step b3,BX.out.2.2.1.step b3,BX.out.2.2.2.step b3⟩
  clear b3 HU;obtain⟨yl,yP,yQ,yR,yS⟩:=y
  obtain⟨y1,y2,y3,y4,y5,y6,y7,y8,y9,ya,yb,yc,hxy⟩:=ty.treeF.slices
  simp only[TV.mk.injEq,true_and] at hxy
  obtain⟨hxy1,hxy2,hxy3,hxy4⟩:=hxy
  subst hxy1 hxy2 hxy3 hxy4;refine⟨_,rfl, ?_⟩
  refine hK.out _ _ (⟨BX.out.2.1.cells,BX.out.2.2.1.cells⟩) (fun hH2=> ?_)
  clear hK K hH;have hH:=hH2
  clear hH2;try simp only[Act.put,sA,sB,sC]
  have bz:=BX.out.2.2.2
  have bw:=BX.out.1
  have z8c:=bz.cells
  have z9:=bz.free
  have Z0:=(bz.set5 (.bool yl) (.slice y1 y5 y9) (.slice y2 y6 ya) (.slice y3 y7 yb) (.slice y4 y8 yc)).cells
  have K0:=(BX.out.2.1.chg (DT u3 (w.heap.size+1+1) (.bool yl) (.slice y1 y5 y9) (.slice y2 y6 ya) (.slice y3 y7 yb) (.slice y4 y8 yc)) (by omega)).cells
  have K1:=(BX.out.2.2.1.chg (DT u3 (w.heap.size+1+1) (.bool yl) (.slice y1 y5 y9) (.slice y2 y6 ya) (.slice y3 y7 yb) (.slice y4 y8 yc)) (by omega)).cells
  have FIN:Hid (Au n (Ho u3 (w.heap.size+1+1) (.bool yl) (.slice y1 y5 y9) (.slice y2 y6 ya) (.slice y3 y7 yb) (.slice y4 y8 yc)) (fun g=>w.heap.size<=g) (TV.mk yl (.slice y1 y5 y9) (.slice y2 y6 ya) (.slice y3 y7 yb) (.slice y4 y8 yc)) T2/\Below w.heap.size w (Ho u3 (w.heap.size+1+1) (.bool yl) (.slice y1 y5 y9) (.slice y2 y6 ya) (.slice y3 y7 yb) (.slice y4 y8 yc))):=
   ⟨(ty.chg (DT u3 (w.heap.size+1+1) _ _ _ _ _) (fun g hg e=>by omega)).mono (fun g hg=>by omega),Dy bw (by omega) _ _ _ _ _⟩
  have HZ2:Hid _:=Z0
  clear Z0 ty BX bw;refine wpAnyH_ready (rs:=[7]) (by kernel_rfl) (by simp) ?_
  refine AllReadyH.cons (o:=⟨_,_,_,_,_,_⟩) rfl (fun K hK=> ?_) AllReadyH.nil
  go_simp
  refine hK.out _ _ (⟨K0,K1⟩) (fun hH2=> ?_)
  clear hK K hH;have hH:=hH2
  clear hH2;try simp only[Act.put,sA,sB,sC]
  refine wpAnyH_done (by kernel_rfl) ?_ _
  clear K0 K1 hH bz z8c z9;go_wp2;have Z:=HZ2.out
  refine bodyPost_ret (v:= .agg #[.bool yl, .slice y1 y5 y9, .slice y2 y6 ya, .slice y3 y7 yb, .slice y4 y8 yc]) (by simp[results,Tryz.results9,go_sem,Z]) rfl ⟨(TV.mk yl (.slice y1 y5 y9) (.slice y2 y6 ya) (.slice y3 y7 yb) (.slice y4 y8 yc)),rfl,FIN.out.1,FIN.out.2⟩
end
section
open Go.ChangeShapes Go.WideShapes Go.ChangeAt Go.RowKit Go.Deep

theorem Tryz.own:ownKnob Tryz.prog.godebug=none:=by kernel_rfl
theorem Tryz.laidOut:laidOutB Tryz.prog=true:=by kernel_rfl
end
section
open Go.ChangeShapes Go.WideShapes Go.ChangeAt Go.RowKit Go.Deep

theorem Tryz.cells5:Tryz.prog.cellsOf 5=1:=by kernel_rfl

theorem Ud {H:Type} {enc:TypeId × Value->H} {W:World} {r:Reach} {b0:Nat} {v:Value} {d:DataW H} {p:List MemPlace}
  (hv:Value.okWide Tryz.prog W r b0 22 v) (h:DataW.Trod enc Tryz.prog W 0 (fun _=>true) true 22 v d p):∃bs:List Int,Sy W v bs:=by
 obtain⟨a0,len,cap,rfl⟩:=okWide_slice Tryz.underlying22 hv
 obtain⟨fuel,hf⟩:=h
 rcases open_ints Tryz.underlying22 Tryz.underlying5 Tryz.cells5 hf with⟨hcs,_⟩|⟨a,len',cap',zs,hcs,_,hl,hm,hmm,_,hx,hwf⟩
 ·simp[Value.cells] at hcs
  obtain⟨rfl,rfl,rfl⟩:=hcs
  exact⟨[],⟨none,0,0,0,rfl,Nat.le_refl _,Nat.zero_le _,fun h=>absurd h (Nat.lt_irrefl _),fun j u hj=>by simp at hj,fun _=>rfl⟩,fun j=>by simp⟩
 ·simp[Value.cells] at hcs
  obtain⟨rfl,rfl,rfl⟩:=hcs
  simp only[if_true] at hmm
  obtain⟨b,off,spot⟩:=a
  have hl0:(zs.take len).length=len:=by simp;omega
  refine⟨zs.take len,⟨some ⟨b,off,spot⟩,b,off,cap,by rw[hl0],by rw[hl0];exact hl,hm,fun h=> ?_, ?_,fun h=>by cases h⟩, ?_⟩
  ·rw[hl0] at h
   have hspot:spot=none:=by simpa[Addr.add] using World.cell?_spot (hx 0 (by omega))
   rw[hspot]
  ·intro j u hj;have hjl:=(List.getElem?_eq_some_iff.1 hj).1
   rw[List.length_map,hl0] at hjl
   have hspot:spot=none:=by simpa[Addr.add] using World.cell?_spot (hx 0 (by omega))
   subst hspot;have hc:=hx j (by omega)
   rw[add_plain] at hc
   rw[hc, ← hj,List.getElem?_map,List.getElem?_take_of_lt hjl,List.getElem?_eq_getElem (by omega)]
   simp[List.getD,show j<zs.length by omega]
  ·intro j;by_cases hj:j<(zs.take len).length
   ·have hm2:(zs.take len)[j]∈zs:=List.mem_of_mem_take (List.getElem_mem hj)
    have:=hwf _ hm2
    rw[List.getD,List.getElem?_eq_getElem hj,Option.getD_some]
    simp only[Lit.wf,Bool.and_eq_true,decide_eq_true_eq] at this
    have e1:IntKind.u8.min=0:=by decide
    have e2:IntKind.u8.max=255:=by decide
    rw[e1,e2] at this
    exact this
   ·rw[List.getD,List.getElem?_eq_none (by omega)];simp
end
end Go.Proofs.YtadmomgdacfgpaaGreat
