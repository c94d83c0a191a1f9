/-
  The program's rows of trees: rowOf, kidsOf.
  The program's inPlaceOf: what came of a kid stands where it stood.
  The program's inTwos: parts of two each, three in the last one where there is one left.
  A row of trees that is being put together out of parts, in the program's boxes.
-/
import Derived.Test.YtnakaabnjelffaaGreatOfInject17
import Derived.Test.YtnakaabnjelffaaGreatOfInject14
import Derived.Test.YtnakaabnjelffaaGreatOfInject29
import Derived.Test.YtnakaabnjelffaaGreatOfInject16
import Derived.Deep.RegionHeld3
namespace Go.Proofs.YtnakaabnjelffaaGreat
set_option maxRecDepth 100000
set_option maxHeartbeats 8000000
section
open Go.RowKit

abbrev Zj:Nat->Prop:=fun _=>True

theorem Ad.one {n:Nat} {w:World} {F:Nat->Prop} {v:Value} {x:TV} {T:Tr} (h:Aq n w F x T) (hr:Aj w F v 1 (Ap [x])):Ad n w F v [T]:=
 ⟨[x],rfl,hr,fun i hi=>by
  have e:i=0:=by simp at hi;omega
  subst e;exact h⟩

theorem GR (n:Nat) (F:Nat->Prop) (x:TV) (T:Tr) (w:World) (ht:Aq n w F x T) :
  Calls Tryz.prog 66 #[x.val] w fun e w' =>∃vt,e= .returned (.agg #[vt, .slice none 0 0])/\Ad n w' (fun g=>F g∨w.heap.size<=g) vt [T]/\Below w.heap.size w w' :=by
 obtain⟨a1,a2,a3,a4,q1,q2,q3,q4,hx⟩:=ht.treeAt.shape
 subst hx;have TT:Hid _:=ht
 clear ht;show Calls Tryz.prog 66 #[.agg #[.bool T.leaf, .slice a1 T.pairs.length q1, .slice a2 T.cuts.length q2, .slice a3 T.kids.length q3, .slice a4 T.buf.length q4]] w _
 generalize T.leaf=lf at *
 generalize T.pairs.length=n1 at *
 generalize T.cuts.length=n2 at *
 generalize T.kids.length=n3 at *
 generalize T.buf.length=n4 at *
 go_enter Tryz.func66,Tryz.ntmps66
 go_wp2;refine bodyPost_ret (v:= .agg #[.slice (some ⟨w.heap.size+1+1,0,none⟩) 1 1, .slice none 0 0]) (by simp[results,Tryz.results66,go_sem]) rfl ⟨_,rfl, ?_,al3 _ _ _ _⟩
 have h:=(TT.out.below (al3 w (.cells #[.bool lf, .slice a1 n1 q1, .slice a2 n2 q2, .slice a3 n3 q3, .slice a4 n4 q4] 29) (.cells #[.slice (some ⟨w.heap.size+1+1,0,none⟩) 1 1, .slice none 0 0] 52) (.cells #[.bool lf, .slice a1 n1 q1, .slice a2 n2 q2, .slice a3 n3 q3, .slice a4 n4 q4] 29))).mono (G:=fun g=>F g∨w.heap.size<=g) (fun g hg=> .inl hg)
 refine Ad.one h ((Aj.laid _ [.bool lf, .slice a1 n1 q1, .slice a2 n2 q2, .slice a3 n3 q3, .slice a4 n4 q4] 29 _ (by simp)).mono fun g hg=> .inr (by omega))

theorem Mh (lf:Bool) (a1 a2 a3 a4:Option Addr) (n1 n2 n3 n4 q1 q2 q3 q4:Nat) (w:World) :
  Calls Tryz.prog 68 #[.agg #[.bool lf, .slice a1 n1 q1, .slice a2 n2 q2, .slice a3 n3 q3, .slice a4 n4 q4]] w fun e w' =>e= .returned (.agg #[.slice a3 n3 q3, .slice a2 n2 q2])/\Below w.heap.size w w' :=by
 go_enter Tryz.func68,Tryz.ntmps68
 go_wp2;refine bodyPost_ret (v:= .agg #[.slice a3 n3 q3, .slice a2 n2 q2]) (by simp[results,Tryz.results68,go_sem]) rfl ⟨rfl,al2 _ _ _⟩
end
section
open Go.RowKit

def Ai (u:World) (B:Nat) (A:Array Value):Prop:=u.heap[B]? =some (.cells A 52 (0,0))
theorem Ai.start (w:World) (A:Array Value):Ai (w.alloc (.cells A 52)) w.heap.size A:=heap_alloc_new w _
theorem Ai.step {u w' :World} {B:Nat} {A:Array Value} (h:Ai u B A) (hb:Below u.heap.size u w'):Ai w' B A:=(hb.block B (Array.getElem?_eq_some_iff.1 h).1).trans h
theorem Ai.two {u:World} {B:Nat} {x0 x1:Value} (h:Ai u B #[x0,x1]):u.cell? ⟨B,0,none⟩=some x0/\u.cell? ⟨B,1,none⟩=some x1:=
  ⟨by rw[cell_of_row u B 0 _ 52 (0,0) h];rfl,by rw[cell_of_row u B 1 _ 52 (0,0) h];rfl⟩
theorem Ai.free {u:World} {B:Nat} {x0 x1:Value} (h:Ai u B #[x0,x1]):u.frozen? ⟨B,0,none⟩=false/\u.frozen? ⟨B,1,none⟩=false:=⟨frozen_of_row u B 0 _ 52 h,frozen_of_row u B 1 _ 52 h⟩

abbrev setR (u:World) (L:Nat) (x y:Value):World:=(u.setCell ⟨L,0,none⟩ x).setCell ⟨L,1,none⟩ y
theorem Ai.set2 {u:World} {L:Nat} {x0 x1:Value} (h:Ai u L #[x0,x1]) (x y:Value):Ai (setR u L x y) L #[x,y]:=
  heap_setCell_same _ L 1 _ 52 y (heap_setCell_same u L 0 _ 52 x h)
theorem Av (u:World) (L:Nat) (x y:Value):Chg (fun g=>g=L) u (setR u L x y):=((Chg.refl (fun g=>g=L) u).setAt L 0 rfl x).setAt L 1 rfl y
theorem Ai.chg {w w' :World} {L:Nat} {A:Array Value} {p:Nat->Prop} (h:Ai w L A) (hc:Chg p w w') (hp:¬p L):Ai w' L A:=(hc.block L (Array.getElem?_eq_some_iff.1 h).1 hp).trans h
theorem Ai.setR {u:World} {B L:Nat} {A:Array Value} (h:Ai u B A) (x y:Value) (hn:¬B=L):Ai (setR u L x y) B A:=h.chg (Av u L x y) hn
theorem Ck {u u' :World} {b:Nat} {o:Obj} (hb:Below u.heap.size u u') (h:u.heap[b]? =some o):u'.heap[b]? =some o:=(hb.block b (Array.getElem?_eq_some_iff.1 h).1).trans h
theorem FP {u:World} {b:Nat} {o:Obj} (h:u.heap[b]? =some o):u.drew.heap[b]? =some o:=h
theorem DY {u:World} {b:Nat} {o:Obj} (h:b=u.heap.size):(u.alloc o).heap[b]? =some o:=by subst h;exact heap_alloc_new u o
theorem Xl {u:World} {B:Nat} (h:∃p p',Ai u (B+1) #[p,p']):B+2<=u.heap.size:=by
  obtain⟨p,p',h⟩:=h
  have:=(Array.getElem?_eq_some_iff.1 h).1
  omega
theorem Xr (p q r:Pt):ptN [p,q,r] 3=p.2.1+(q.2.1+r.2.1):=by simp[ptN]
theorem YH (p q r:Pt):ptC [p,q,r] 3=p.2.2++(q.2.2++r.2.2):=by simp[ptC]
theorem WD (b:Nat) (v1 v2 v3:Value) (n1 n2 n3:Nat) (X1 X2 X3:List Value) (u:World) (hb:u.heap[b]? =some (.cells #[v1,v2,v3] 26 (0,0)))
    (h1:Row u v1 n1 X1/\X1.length=n1*5/\∀y∈X1,y.oneCell' =true) (h2:Row u v2 n2 X2/\X2.length=n2*5/\∀y∈X2,y.oneCell' =true) (h3:Row u v3 n3 X3/\X3.length=n3*5/\∀y∈X3,y.oneCell' =true) (hn:n1+(n2+n3)<=2097152) :
    Calls Tryz.prog 125 #[.slice (some ⟨b,0,none⟩) 3 3] u fun e w' =>∃v,e= .returned v/\w'.ownsRow u.heap.size 29 5 v (n1+(n2+n3)) (X1++(X2++X3))/\Below u.heap.size u w' :=by
  have:=Qv b 0 3 [(v1,n1,X1),(v2,n2,X2),(v3,n3,X3)] u (Nat.le_refl 3) (by decide) (Nat.succ_pos 2) (fun j hj=>by rw[Nat.zero_add,cell_of_row u b j _ 26 (0,0) hb];exact match j,hj with|0,_=>rfl|1,_=>rfl|2,_=>rfl)
    (fun j hj=>match j,hj with|0,_=>h1|1,_=>h2|2,_=>h3) (by show ptN _ 3<=_;rw[Xr];exact hn)
  rw[show[(v1,n1,X1),(v2,n2,X2),(v3,n3,X3)].length=3 from rfl,Xr,YH] at this
  exact this
theorem V7 (b:Nat) (v1 v2 v3:Value) (n1 n2 n3:Nat) (X1 X2 X3:List Value) (u:World) (hb:u.heap[b]? =some (.cells #[v1,v2,v3] 25 (0,0)))
    (h1:Row u v1 n1 X1/\X1.length=n1*1/\∀y∈X1,y.oneCell' =true) (h2:Row u v2 n2 X2/\X2.length=n2*1/\∀y∈X2,y.oneCell' =true) (h3:Row u v3 n3 X3/\X3.length=n3*1/\∀y∈X3,y.oneCell' =true) (hn:n1+(n2+n3)<=2097152) :
    Calls Tryz.prog 126 #[.slice (some ⟨b,0,none⟩) 3 3] u fun e w' =>∃v,e= .returned v/\w'.ownsRow u.heap.size 3 1 v (n1+(n2+n3)) (X1++(X2++X3))/\Below u.heap.size u w' :=by
  have:=QB b 0 3 [(v1,n1,X1),(v2,n2,X2),(v3,n3,X3)] u (Nat.le_refl 3) (by decide) (Nat.succ_pos 2) (fun j hj=>by rw[Nat.zero_add,cell_of_row u b j _ 25 (0,0) hb];exact match j,hj with|0,_=>rfl|1,_=>rfl|2,_=>rfl)
    (fun j hj=>match j,hj with|0,_=>h1|1,_=>h2|2,_=>h3) (by show ptN _ 3<=_;rw[Xr];exact hn)
  rw[show[(v1,n1,X1),(v2,n2,X2),(v3,n3,X3)].length=3 from rfl,Xr,YH] at this
  exact this

theorem Mb (b1 o1 q1 b2 o2 q2:Nat) (a5:Option Addr) (q5:Nat) (a6:Option Addr) (q6:Nat) (xs ys:List TV) (cs ds:List Int) (i:Nat) (w:World)
    (h1:Row w (.slice (some ⟨b1,o1,none⟩) xs.length q1) xs.length (Ap xs)) (h2:Row w (.slice (some ⟨b2,o2,none⟩) cs.length q2) cs.length (Ab cs))
    (h5:Row w (.slice a5 ys.length q5) ys.length (Ap ys)) (h6:Row w (.slice a6 ds.length q6) ds.length (Ab ds))
    (hi:i<xs.length) (hc:cs.length+1=xs.length) (hc0:0<cs.length) (hx:xs.length<=524288) (hy:ys.length<=524288) (hd:ds.length<=524288)
    (g1:∀y∈Ap xs,y.oneCell' =true) (g2:∀y∈Ap ys,y.oneCell' =true) :
    Calls Tryz.prog 103 #[.agg #[.slice (some ⟨b1,o1,none⟩) xs.length q1, .slice (some ⟨b2,o2,none⟩) cs.length q2], .int .i64 (i:Nat), .slice a6 ds.length q6, .slice a5 ys.length q5] w fun e w' =>∃v1 v2,e= .returned (.agg #[v1,v2])∧
      w'.ownsRow w.heap.size 29 5 v1 (xs.take i++ys++xs.drop (i+1)).length (Ap (xs.take i++ys++xs.drop (i+1)))/\w'.ownsRow w.heap.size 3 1 v2 (cs.take i++ds++cs.drop i).length (Ab (cs.take i++ds++cs.drop i))/\Below w.heap.size w w' :=by
  have hq1:xs.length<=q1/\q1<=maxLen:=by obtain⟨_,_,_,_,h,h',h'',_⟩:=h1;simp at h;omega
  have hq2:cs.length<=q2/\q2<=maxLen:=by obtain⟨_,_,_,_,h,h',h'',_⟩:=h2;simp at h;omega
  unfold maxLen at hq1 hq2;have RT:∀w',Below w.heap.size w w' ->Row w' (.slice (some ⟨b1,o1,none⟩) i q1) i (Ap (xs.take i)):=fun w' hb=>(h1.below hb).headT i (by omega) (by omega)
  have RC:∀w',Below w.heap.size w w' ->Row w' (.slice (some ⟨b2,o2,none⟩) i q2) i (Ab (cs.take i)):=fun w' hb=>(h2.below hb).headI i (by omega) (by omega)
  have RT3:∀w',Below w.heap.size w w' ->Row w' (.slice (if q1=i+1 then some ⟨b1,o1,none⟩ else some ⟨b1,o1+(i+1)*5,none⟩) (xs.length-(i+1)) (q1-(i+1))) (xs.length-(i+1)) (Ap (xs.drop (i+1))):=fun w' hb=>by
    have:=(h1.below hb).sub (size:=5) (i+1) xs.length (by omega) (Nat.le_refl _) (by omega)
    rw[Gn,List.take_of_length_le (by rw[Bj];simp)] at this
    simpa[Go.WideShapes.add_plain] using this
  have RC3:∀w',Below w.heap.size w w' ->Row w' (.slice (if q2=i then some ⟨b2,o2,none⟩ else some ⟨b2,o2+i,none⟩) (cs.length-i) (q2-i)) (cs.length-i) (Ab (cs.drop i)):=fun w' hb=>by
    have:=(h2.below hb).sub (size:=1) i cs.length (by omega) (Nat.le_refl _) (by omega)
    rw[Hi,List.take_of_length_le (by rw[Bk];simp)] at this
    simpa[Go.WideShapes.add_plain] using this
  generalize hA3:(if q1=i+1 then some (⟨b1,o1,none⟩:Addr) else some ⟨b1,o1+(i+1)*5,none⟩)=A3 at RT3
  generalize hC3:(if q2=i then some (⟨b2,o2,none⟩:Addr) else some ⟨b2,o2+i,none⟩)=C3 at RC3
  have KT:Hid (∀(u:World) (b:Nat),Below w.heap.size w u->u.heap[b]? =some (.cells #[.slice (some ⟨b1,o1,none⟩) i q1, .slice a5 ys.length q5, .slice A3 (xs.length-(i+1)) (q1-(i+1))] 26 (0,0))→
      Calls Tryz.prog 125 #[.slice (some ⟨b,0,none⟩) 3 3] u fun e w' =>∃v,e= .returned v/\w'.ownsRow u.heap.size 29 5 v (xs.take i++ys++xs.drop (i+1)).length (Ap (xs.take i++ys++xs.drop (i+1)))/\Below u.heap.size u w'):=fun u b hb hh=>by
    have:=WD b _ _ _ i ys.length (xs.length-(i+1)) _ _ _ u hh ⟨RT u hb,by rw[Bj,List.length_take,Nat.min_eq_left (by omega)],LW g1 i⟩ ⟨h5.below hb,Bj _,g2⟩ ⟨RT3 u hb,by rw[Bj,List.length_drop],MH g1 (i+1)⟩ (by omega)
    rw[List.append_assoc,E7,E7,show(xs.take i++(ys++xs.drop (i+1))).length=i+(ys.length+(xs.length-(i+1))) by simp;omega]
    exact this
  have KC:Hid (∀(u:World) (b:Nat),Below w.heap.size w u->u.heap[b]? =some (.cells #[.slice (some ⟨b2,o2,none⟩) i q2, .slice a6 ds.length q6, .slice C3 (cs.length-i) (q2-i)] 25 (0,0))→
      Calls Tryz.prog 126 #[.slice (some ⟨b,0,none⟩) 3 3] u fun e w' =>∃v,e= .returned v/\w'.ownsRow u.heap.size 3 1 v (cs.take i++ds++cs.drop i).length (Ab (cs.take i++ds++cs.drop i))/\Below u.heap.size u w'):=fun u b hb hh=>by
    have:=V7 b _ _ _ i ds.length (cs.length-i) _ _ _ u hh ⟨RC u hb,by rw[Bk,List.length_take,Nat.min_eq_left (by omega),Nat.mul_one],BT _⟩ ⟨h6.below hb,by rw[Bk,Nat.mul_one],BT _⟩ ⟨RC3 u hb,by rw[Bk,List.length_drop,Nat.mul_one],BT _⟩ (by omega)
    rw[List.append_assoc,FW,FW,show(cs.take i++(ds++cs.drop i)).length=i+(ds.length+(cs.length-i)) by simp;omega]
    exact this
  generalize Ap (xs.take i++ys++xs.drop (i+1))=YT at *
  generalize (xs.take i++ys++xs.drop (i+1)).length=NT at *
  generalize Ab (cs.take i++ds++cs.drop i)=YC at *
  generalize (cs.take i++ds++cs.drop i).length=NC at *
  clear RT RC RT3 RC3 h1 h2 h5 h6 g1 g2;generalize xs.length=nx at *
  generalize ys.length=ny at *
  generalize cs.length=nc at *
  generalize ds.length=nd at *
  have X0:Hid (Ai ((w.alloc (.cells #[.slice (some ⟨b1,o1,none⟩) nx q1, .slice (some ⟨b2,o2,none⟩) nc q2] 52)).alloc (.cells #[.slice none 0 0, .slice none 0 0] 52)) w.heap.size #[.slice (some ⟨b1,o1,none⟩) nx q1, .slice (some ⟨b2,o2,none⟩) nc q2]):=(Ai.start w _).step (al1 _ _)
  have X1:Hid (Ai ((w.alloc (.cells #[.slice (some ⟨b1,o1,none⟩) nx q1, .slice (some ⟨b2,o2,none⟩) nc q2] 52)).alloc (.cells #[.slice none 0 0, .slice none 0 0] 52)) (w.heap.size+1) #[.slice none 0 0, .slice none 0 0]):=by
    have:=Ai.start (w.alloc (.cells #[.slice (some ⟨b1,o1,none⟩) nx q1, .slice (some ⟨b2,o2,none⟩) nc q2] 52)) #[.slice none 0 0, .slice none 0 0]
    rw[World.size_alloc] at this
    exact this
  have B0:Hid (Below w.heap.size w ((w.alloc (.cells #[.slice (some ⟨b1,o1,none⟩) nx q1, .slice (some ⟨b2,o2,none⟩) nc q2] 52)).alloc (.cells #[.slice none 0 0, .slice none 0 0] 52))):=al2 _ _ _
  have ST:Hid (∀u u',Below u.heap.size u u' ->(u.cell? ⟨w.heap.size,0,none⟩=some (.slice (some ⟨b1,o1,none⟩) nx q1)/\u.cell? ⟨w.heap.size,1,none⟩=some (.slice (some ⟨b2,o2,none⟩) nc q2)/\Hid ((∃p p',Ai u (w.heap.size+1) #[p,p'])/\Ai u w.heap.size #[.slice (some ⟨b1,o1,none⟩) nx q1, .slice (some ⟨b2,o2,none⟩) nc q2]/\Below w.heap.size w u))->(u'.cell? ⟨w.heap.size,0,none⟩=some (.slice (some ⟨b1,o1,none⟩) nx q1)/\u'.cell? ⟨w.heap.size,1,none⟩=some (.slice (some ⟨b2,o2,none⟩) nc q2)/\Hid ((∃p p',Ai u' (w.heap.size+1) #[p,p'])/\Ai u' w.heap.size #[.slice (some ⟨b1,o1,none⟩) nx q1, .slice (some ⟨b2,o2,none⟩) nc q2]/\Below w.heap.size w u'))):=fun u u' hb h=>⟨(h.2.2.out.2.1.step hb).two.1,(h.2.2.out.2.1.step hb).two.2,(by obtain⟨x,y,hx⟩:=h.2.2.out.1;exact⟨x,y,hx.step hb⟩),h.2.2.out.2.1.step hb,Below.and h.2.2.out.2.2 hb⟩
  have KA:=hid (fun (u:World) (o:Obj) (h:(u.cell? ⟨w.heap.size,0,none⟩=some (.slice (some ⟨b1,o1,none⟩) nx q1)/\u.cell? ⟨w.heap.size,1,none⟩=some (.slice (some ⟨b2,o2,none⟩) nc q2)/\Hid ((∃p p',Ai u (w.heap.size+1) #[p,p'])/\Ai u w.heap.size #[.slice (some ⟨b1,o1,none⟩) nx q1, .slice (some ⟨b2,o2,none⟩) nc q2]/\Below w.heap.size w u)))=>ST.out u _ (al1 u o) h)
  have SD:=hid (fun u (h:(u.cell? ⟨w.heap.size,0,none⟩=some (.slice (some ⟨b1,o1,none⟩) nx q1)/\u.cell? ⟨w.heap.size,1,none⟩=some (.slice (some ⟨b2,o2,none⟩) nc q2)/\Hid ((∃p p',Ai u (w.heap.size+1) #[p,p'])/\Ai u w.heap.size #[.slice (some ⟨b1,o1,none⟩) nx q1, .slice (some ⟨b2,o2,none⟩) nc q2]/\Below w.heap.size w u)))=>ST.out u _ (Below.refl _ _).drew h)
  have SZ:=hid (fun u u' (_:Below u.heap.size u u') (h:(u.cell? ⟨w.heap.size,0,none⟩=some (.slice (some ⟨b1,o1,none⟩) nx q1)/\u.cell? ⟨w.heap.size,1,none⟩=some (.slice (some ⟨b2,o2,none⟩) nc q2)/\Hid ((∃p p',Ai u (w.heap.size+1) #[p,p'])/\Ai u w.heap.size #[.slice (some ⟨b1,o1,none⟩) nx q1, .slice (some ⟨b2,o2,none⟩) nc q2]/\Below w.heap.size w u)))=>Xl h.2.2.out.1)
  have KS:Hid (∀(u:World) (x y:Value),(u.cell? ⟨w.heap.size,0,none⟩=some (.slice (some ⟨b1,o1,none⟩) nx q1)/\u.cell? ⟨w.heap.size,1,none⟩=some (.slice (some ⟨b2,o2,none⟩) nc q2)/\Hid ((∃p p',Ai u (w.heap.size+1) #[p,p'])/\Ai u w.heap.size #[.slice (some ⟨b1,o1,none⟩) nx q1, .slice (some ⟨b2,o2,none⟩) nc q2]/\Below w.heap.size w u))->((setR u (w.heap.size+1) x y).cell? ⟨w.heap.size,0,none⟩=some (.slice (some ⟨b1,o1,none⟩) nx q1)/\(setR u (w.heap.size+1) x y).cell? ⟨w.heap.size,1,none⟩=some (.slice (some ⟨b2,o2,none⟩) nc q2)/\Hid ((∃p p',Ai (setR u (w.heap.size+1) x y) (w.heap.size+1) #[p,p'])/\Ai (setR u (w.heap.size+1) x y) w.heap.size #[.slice (some ⟨b1,o1,none⟩) nx q1, .slice (some ⟨b2,o2,none⟩) nc q2]/\Below w.heap.size w (setR u (w.heap.size+1) x y)))):=fun u x y h=>by
    obtain⟨x0,y0,hx0⟩:=h.2.2.out.1
    have h0:=h.2.2.out.2.1.setR (L:=w.heap.size+1) x y (by omega)
    exact⟨h0.two.1,h0.two.2,⟨x,y,hx0.set2 x y⟩,h0,(h.2.2.out.2.2.setCell (p:=⟨w.heap.size+1,0,none⟩) (Nat.le_succ _) x).setCell (p:=⟨w.heap.size+1,1,none⟩) (Nat.le_succ _) y⟩
  have hh1:(0:Int)<=(i:Int):=by omega
  have hh2:(i:Int)<=(q1:Int):=by omega
  have hh3:(i:Int)+1<=(nx:Int):=by omega
  have hh4:(i:Int)<=(nc:Int):=by omega
  have hh6:(0:Int)<=(i:Int)+1:=by omega
  have hh7:(nx:Int)<=(q1:Int):=by omega
  have hh8:(nc:Int)<=(q2:Int):=by omega
  have hh9:(i:Int)+1<=(q1:Int):=by omega
  have hh10:i+1<=nx:=by omega
  have hh11:i+1<=q1:=by omega
  have hh5:(i:Int)<=(q2:Int):=by omega
  have hw:IntKind.i64.wrap ((i:Int)+1)=(i:Int)+1:=by rw[IntKind.wrap_i64];omega
  have ht1:((i:Int)+1).toNat=i+1:=by omega
  go_enter Tryz.func103,Tryz.ntmps103
  go_wp2_with fail;refine Cj (fun W=>(W.cell? ⟨w.heap.size,0,none⟩=some (.slice (some ⟨b1,o1,none⟩) nx q1)/\W.cell? ⟨w.heap.size,1,none⟩=some (.slice (some ⟨b2,o2,none⟩) nc q2)/\Hid ((∃p p',Ai W (w.heap.size+1) #[p,p'])/\Ai W w.heap.size #[.slice (some ⟨b1,o1,none⟩) nx q1, .slice (some ⟨b2,o2,none⟩) nc q2]/\Below w.heap.size w W))) ⟨X0.out.two.1,X0.out.two.2,⟨_,_,X1.out⟩,X0.out,B0.out⟩ ?_
  rintro W SW0
  have SW:=ST.out W W.drew (Below.refl _ _).drew SW0
  clear X0 X1 B0;go_region_held3 (fun u=>(u.cell? ⟨w.heap.size,0,none⟩=some (.slice (some ⟨b1,o1,none⟩) nx q1)/\u.cell? ⟨w.heap.size,1,none⟩=some (.slice (some ⟨b2,o2,none⟩) nc q2)/\Hid ((∃p p',Ai u (w.heap.size+1) #[p,p'])/\Ai u w.heap.size #[.slice (some ⟨b1,o1,none⟩) nx q1, .slice (some ⟨b2,o2,none⟩) nc q2]/\Below w.heap.size w u))) (first|assumption|exact KA.out _ _ (by assumption)|exact KS.out _ _ _ (by assumption)) (first
    |(go_at_call 125;refine Calls.mono (KT.out _ _ (And.right (And.right (Hid.out (And.right (And.right (by first|exact SD.out _ (KA.out _ _ SW0)|exact SD.out _ (KA.out _ _ (KA.out _ _ SW0))|exact SW2|exact KA.out _ _ SW2)))))) (by first|exact FP (DY (by simp))|exact FP (Ck (al1 _ _) (DY (by simp)))|exact DY (by simp)|exact Ck PB2.out (FP (Ck (al1 _ _) (DY (by simp))))|exact Ck PB2.out (FP (DY (by simp))))) ?_;rintro e w1 ⟨v1,rfl,p1,pb1⟩;have SW1:=ST.out _ _ pb1 (by first|exact SD.out _ (KA.out _ _ SW0)|exact SD.out _ (KA.out _ _ (KA.out _ _ SW0))|exact SW2|exact KA.out _ _ SW2);obtain⟨c1,d1,hv1,_⟩:=(Row.of_owns p1).len;subst hv1;have P1:Hid (∀x,Below w1.heap.size w1 x->x.ownsRow (w.heap.size+2) 29 5 (.slice c1 NT d1) NT YT):=fun x hx=>AJ (AR p1 (SZ.out _ _ pb1 (by first|exact SD.out _ (KA.out _ _ SW0)|exact SD.out _ (KA.out _ _ (KA.out _ _ SW0))|exact SW2|exact KA.out _ _ SW2))) hx;have PB1:Hid _:=pb1;obtain⟨x0,y0,hx0⟩:=SW1.2.2.out.1;obtain⟨f0,f1⟩:=hx0.free;obtain⟨g0,g1⟩:=hx0.two;have BX1:Hid _:=hx0;clear p1 pb1 hx0)
    |(go_at_call 126;refine Calls.mono (KC.out _ _ (And.right (And.right (Hid.out (And.right (And.right (by first|exact SD.out _ (KA.out _ _ SW0)|exact SD.out _ (KA.out _ _ (KA.out _ _ SW0))|exact SW1|exact KA.out _ _ SW1)))))) (by first|exact FP (DY (by simp))|exact FP (Ck (al1 _ _) (DY (by simp)))|exact DY (by simp)|exact Ck PB1.out (FP (Ck (al1 _ _) (DY (by simp))))|exact Ck PB1.out (FP (DY (by simp))))) ?_;rintro e w2 ⟨v2,rfl,p2,pb2⟩;have SW2:=ST.out _ _ pb2 (by first|exact SD.out _ (KA.out _ _ SW0)|exact SD.out _ (KA.out _ _ (KA.out _ _ SW0))|exact SW1|exact KA.out _ _ SW1);obtain⟨c2,d2,hv2,_⟩:=(Row.of_owns p2).len;subst hv2;have P2:Hid (∀x,Below w2.heap.size w2 x->x.ownsRow (w.heap.size+2) 3 1 (.slice c2 NC d2) NC YC):=fun x hx=>AJ (AR p2 (SZ.out _ _ pb2 (by first|exact SD.out _ (KA.out _ _ SW0)|exact SD.out _ (KA.out _ _ (KA.out _ _ SW0))|exact SW1|exact KA.out _ _ SW1))) hx;have PB2:Hid _:=pb2;obtain⟨x0,y0,hx0⟩:=SW2.2.2.out.1;obtain⟨f0,f1⟩:=hx0.free;obtain⟨g0,g1⟩:=hx0.two;have BX2:Hid _:=hx0;clear p2 pb2 hx0))
  all_goals
    go_wp2;first
    | (have Z := (Ai.set2 BX2.out (.slice c1 NT d1) (.slice c2 NC d2)).two
       have h1:=P1.out w2 (by first|exact PB2.out|exact Below.and (al1 _ _) PB2.out)
       have h2:=P2.out w2 (Below.refl _ _)
       refine bodyPost_ret (v:= .agg #[.slice c1 NT d1, .slice c2 NC d2]) (by simp[results,Tryz.results103,go_sem,Z.1,Z.2]) rfl ⟨_,_,rfl, ?_, ?_,(KS.out w2 (.slice c1 NT d1) (.slice c2 NC d2) SW2).2.2.out.2.2⟩
       · exact AR (AQ h1 (Av w2 (w.heap.size+1) _ _) (fun g hg e=>by have:=(h1.lt g hg).1;omega)) (by omega)
       · exact AR (AQ h2 (Av w2 (w.heap.size+1) _ _) (fun g hg e=>by have:=(h2.lt g hg).1;omega)) (by omega))
    | (have Z := (Ai.set2 BX1.out (.slice c1 NT d1) (.slice c2 NC d2)).two
       have h1:=P1.out w1 (Below.refl _ _)
       have h2:=P2.out w1 (by first|exact PB1.out|exact Below.and (al1 _ _) PB1.out)
       refine bodyPost_ret (v:= .agg #[.slice c1 NT d1, .slice c2 NC d2]) (by simp[results,Tryz.results103,go_sem,Z.1,Z.2]) rfl ⟨_,_,rfl, ?_, ?_,(KS.out w1 (.slice c1 NT d1) (.slice c2 NC d2) SW1).2.2.out.2.2⟩
       · exact AR (AQ h1 (Av w1 (w.heap.size+1) _ _) (fun g hg e=>by have:=(h1.lt g hg).1;omega)) (by omega)
       · exact AR (AQ h2 (Av w1 (w.heap.size+1) _ _) (fun g hg e=>by have:=(h2.lt g hg).1;omega)) (by omega))

theorem GN (n:Nat) (F:Nat->Prop) (vt vc ut uc:Value) (m x:TM) (i:Nat) (w:World) (ht:Ad n w F vt m.1) (hc:Aj w F vc m.2.length (Ab m.2)) (hu:Ad n w F ut x.1) (hd:Aj w F uc x.2.length (Ab x.2))
    (hl:m.2.length+1=m.1.length) (h2:2<=m.1.length) (hi:i<m.1.length) (hb1:m.1.length<=524288) (hb2:x.1.length<=524288) (hb3:x.2.length<=524288) :
    Calls Tryz.prog 103 #[.agg #[vt,vc], .int .i64 (i:Nat),uc,ut] w fun e w' =>∃v1 v2,e= .returned (.agg #[v1,v2])/\Ad n w' (fun b=>F b∨w.heap.size<=b) v1 (Bb m i x).1/\Aj w' (fun b=>F b∨w.heap.size<=b) v2 (Bb m i x).2.length (Ab (Bb m i x).2)/\Below w.heap.size w w' :=by
  obtain⟨xs,ex,rx⟩:=ht.els
  obtain⟨ys,ey,ry⟩:=hu.els
  have gx:=EH ex.2
  have gy:=EH ey.2
  rw[←ex.1] at rx
  rw[←ey.1] at ry
  have qx:=rx.row
  have qy:=ry.row
  have qc:=hc.row
  have qd:=hd.row
  obtain⟨av,b1,o1,c1,rfl,_,_,ha1,_⟩:=rx.row
  obtain⟨bv,b2,o2,c2,rfl,_,_,ha2,_⟩:=hc.row
  obtain⟨a5,b5,o5,c5,rfl,_⟩:=ry.row
  obtain⟨a6,b6,o6,c6,rfl,_⟩:=hd.row
  have hx1:=ex.1
  have hy1:=ey.1
  have:=ha1 (by omega)
  subst this;have:=ha2 (by omega)
  subst this;refine(Mb b1 o1 c1 b2 o2 c2 a5 c5 a6 c6 xs ys m.2 x.2 i w qx qc qy qd (by omega) (by omega) (by omega) (by omega) (by omega) hb3 gx gy).mono ?_
  rintro e w' ⟨v1,v2,rfl,O1,O2,hb⟩
  refine⟨v1,v2,rfl, ?_, ?_,hb⟩
  · have el := ((ex.take i).append ey).append (ex.drop (i + 1))
    have el' :Els n w' (fun b=>F b∨w.heap.size<=b) (xs.take i++ys++xs.drop (i+1)) (Bb m i x).1:=(el.below hb).mono fun g hg=> .inl hg
    exact el'.trees ((Aj.of_owns O1).mono fun g hg=> .inr (O1.lt g hg).1)
  · exact(Aj.of_owns O2).mono fun g hg=> .inr (O2.lt g hg).1
end
section
open Go.RowKit

def Eh (n:Nat):Nat->Nat->List (Nat × Nat)
 |0,_=>[]
 |f+1,i=>if i<n then (i,AM (n-i))::Eh n f (i+AM (n-i)) else []
def AB (n i:Nat):List (Nat × Nat):=Eh n (n-i) i
theorem Ho (n:Nat):∀f g i,n-i<=f->n-i<=g->Eh n f i=Eh n g i
 |0,0,_,_,_=>rfl
 |0,g+1,i,h,_=>by rw[Eh,Eh,if_neg (by omega)]
 |f+1,0,i,_,h=>by rw[Eh,Eh,if_neg (by omega)]
 |f+1,g+1,i,hf,hg=>by
  have:=Br (n-i)
  rw[Eh,Eh]
  split
  ·rw[Ho n f g _ (by omega) (by omega)]
  ·rfl
theorem Km {n i:Nat} (h:i<n):AB n i=(i,AM (n-i))::AB n (i+AM (n-i)):=by
 have h2:=Br (n-i)
 unfold AB;rw[Ho n (n-i) (n-i+1) i (by omega) (by omega),Eh,if_pos h,Ho n (n-i) (n-(i+AM (n-i))) _ (by omega) (by omega)]
theorem Jc {n i:Nat} (h:¬i<n):AB n i=[]:=by
 unfold AB;rw[show n-i=0 by omega];rfl
theorem IH:∀n i,(AB n i).length<=n-i:=by
 intro n;have key:∀f i,(Eh n f i).length<=f:=by
  intro f;induction f with
  |zero=>intro i;exact Nat.le_refl _
  |succ f ih=>
   intro i;rw[Eh]
   split
   ·have:=ih (i+AM (n-i));simp only[List.length_cons];omega
   ·simp
 exact fun i=>key _ i
abbrev EB (b off q size:Nat) (p:Nat × Nat):Value:= .slice (some ⟨b,off+p.1*size,none⟩) p.2 (q-p.1)

theorem Tryz.info26:(Tryz.prog.info? 26).map (fun i=>(i.zero,i.size,i.bytes))=some (some (.slice none 0 0),1,24):=by kernel_rfl
theorem Ri (b off n q:Nat) (w:World) (hn:2<=n) (hq:n<=q) (hm:q<=maxLen) (hb:n<=1048576) :
  Calls Tryz.prog 92 #[.slice (some ⟨b,off,none⟩) n q] w fun e w' =>∃v,e= .returned v/\w'.ownsRow w.heap.size 26 1 v (AB n 0).length ((AB n 0).map (EB b off q 5))/\Below w.heap.size w w' :=by
 obtain⟨i0,hi0,hz0,hz1,hz2⟩:=info_parts Tryz.info26
 have PA:Hid (∀i,i<n->AB n i=(i,AM (n-i))::AB n (i+AM (n-i))):=fun i h=>Km h
 have PE:Hid (∀i,¬i<n->AB n i=[]):=fun i h=>Jc h
 have MN:Hid (∀r,AM r=2∨(AM r=3/\r=3)):=Br
 have M3:Hid (AM 3=3):=rfl
 generalize hP:AB n 0=P0 at *
 have E0:Hid (AB n 0=P0):=hP
 clear hP;unfold maxLen at hm;go_enter Tryz.func92,Tryz.ntmps92
 go_wp2;go_loopw [0,3] (fun s ps wr=>∃(i r o c' k:Nat) (D:List (Nat × Nat)) (a:Option Addr) (c:Nat),s= .slice (some ⟨b,o,none⟩) r c' ∧ps= .slice a k c/\Hid (k=D.length)/\Hid (o=off+i*5)/\Hid (i+r=n)/\Hid (c' =q-i)/\r<=c' ∧c' <=9223372036854775807/\r<=1048576/\2<=r/\k<=1048576/\Hid (k<=i)/\Hid (D++AB n i=P0)/\Hid (wr.ownsRow w.heap.size 26 1 (.slice a k c) k (D.map (EB b off q 5)))/\Hid (Below w.heap.size w wr))
  (fun s _ _=>match s with| .slice _ m _=>m|_=>0)
 case atStart=>exact⟨0,n,off,q,0,[],none,0,rfl,rfl,rfl,by show _=_;omega,by show _=_;omega,rfl,hq,by omega,hb,hn,by omega,Nat.le_refl _,E0,World.ownsRow_nil _ _ _ _,Below.refl _ _⟩
 case round=>
  obtain⟨i,r,o,c',k,D,a,c,rfl,rfl,HK,HO,HI,HC,hrc,hcm,hrm,hr2,hkm,HKI,ED,OW,BW⟩:=hrel
  have PI:=PA.out i (by have:=HI.out;omega)
  rw[show n-i=r by have:=HI.out;omega] at PI
  have hM:=MN.out r
  have hr3:r=3->AM r=3:=fun h=>by rw[h];exact M3.out
  generalize AM r=M at *
  have PI2:Hid (AB n i=(i,M)::AB n (i+M)):=PI
  have HR:Hid _:=Bl (n:=k) (bytes:=24) (by omega) (by decide)
  have ONE:Hid (∀(m:Nat) (u:Value),u∈[Value.slice (some ⟨b,o,none⟩) m c']->u.oneCell' =true):=fun m u hu=>by simp at hu;subst hu;rfl
  have hbs:=BW.out.size
  clear PI PA;by_cases h3:3<r
  ·have hM2:M=2:=by omega
   have h3' :(3:Int)<(r:Int):=by omega
   have hc2:2<=c' :=by omega
   have hc3:(2:Int)<=(c' :Int):=by omega
   have hr2' :(2:Int)<=(r:Int):=by omega
   have hc4:¬c' =2:=by omega
   subst hM2;clear hM hr3;go_wp2_with (at_builtin;refine BI wr rfl _ _ 130 rfl w.heap.size 26 i0 _ 1 24 Tryz.underlying130 hi0 hz0 hz1 hz2 rfl (by decide) (.slice a k c) _ _ rfl OW.out [.slice (some ⟨b,o,none⟩) 2 c'] rfl rfl (ONE.out 2) HR.out.1 HR.out.2 hbs ?_)
   intro v1 w1 o1 h1 b1;obtain⟨a1,c1,hv1,_⟩:=(Row.of_owns o1).len
   subst hv1;have O1:Hid _:=o1
   have B1:Hid _:=BW.out.trans b1
   clear o1 h1 b1 OW BW;go_wp2;go_roundw
   case rel=>exact⟨i+2,r-2,o+2*5,c' - 2,k+1,D++[(i,2)],a1,c1,by simp,rfl,by show _=_;rw[HK.out];simp,by show _=_;have:=HO.out;omega,by show _=_;have:=HI.out;omega,by show _=_;have:=HC.out;omega,by omega,by omega,by omega,by omega,by have:=HI.out;have:=HKI.out;omega,by show _<=_;have:=HKI.out;omega,by show _=_;have:=ED.out;rw[PI2.out] at this;simpa using this,by
    have:=O1.out
    show World.ownsRow _ _ _ _ _ _ _
    rw[List.map_append]
    have e:List.map (EB b off q 5) [(i,2)]=[.slice (some ⟨b,o,none⟩) 2 c']:=by simp[EB,HO.out,HC.out]
    rw[e]
    exact this,B1⟩
   case measure=>simp;omega
  ·have hM2:M=r:=by omega
   have h3' :¬(3:Int)<(r:Int):=by omega
   subst hM2;clear hM hr3;go_wp2_with (at_builtin;refine BI wr rfl _ _ 130 rfl w.heap.size 26 i0 _ 1 24 Tryz.underlying130 hi0 hz0 hz1 hz2 rfl (by decide) (.slice a k c) _ _ rfl OW.out [.slice (some ⟨b,o,none⟩) M c'] rfl rfl (ONE.out M) HR.out.1 HR.out.2 hbs ?_)
   intro v1 w1 o1 h1 b1;have O1:Hid _:=o1
   have B1:Hid _:=BW.out.trans b1
   clear o1 h1 b1 OW BW;go_wp2;go_ret;refine⟨v1,rfl, ?_,B1.out⟩
   have e1:=ED.out
   rw[PI2.out,PE.out (i+M) (by have:=HI.out;omega)] at e1
   rw[←e1,List.length_append,List.map_append, ← HK.out]
   have e:List.map (EB b off q 5) [(i,M)]=[.slice (some ⟨b,o,none⟩) M c']:=by simp[EB,HO.out,HC.out]
   rw[e]
   exact O1.out

theorem Tryz.info24:(Tryz.prog.info? 24).map (fun i=>(i.zero,i.size,i.bytes))=some (some (.slice none 0 0),1,24):=by kernel_rfl
theorem QJ (b off n q:Nat) (w:World) (hn:2<=n) (hq:n<=q) (hm:q<=maxLen) (hb:n<=1048576) :
  Calls Tryz.prog 93 #[.slice (some ⟨b,off,none⟩) n q] w fun e w' =>∃v,e= .returned v/\w'.ownsRow w.heap.size 24 1 v (AB n 0).length ((AB n 0).map (EB b off q 2))/\Below w.heap.size w w' :=by
 obtain⟨i0,hi0,hz0,hz1,hz2⟩:=info_parts Tryz.info24
 have PA:Hid (∀i,i<n->AB n i=(i,AM (n-i))::AB n (i+AM (n-i))):=fun i h=>Km h
 have PE:Hid (∀i,¬i<n->AB n i=[]):=fun i h=>Jc h
 have MN:Hid (∀r,AM r=2∨(AM r=3/\r=3)):=Br
 have M3:Hid (AM 3=3):=rfl
 generalize hP:AB n 0=P0 at *
 have E0:Hid (AB n 0=P0):=hP
 clear hP;unfold maxLen at hm;go_enter Tryz.func93,Tryz.ntmps93
 go_wp2;go_loopw [0,3] (fun s ps wr=>∃(i r o c' k:Nat) (D:List (Nat × Nat)) (a:Option Addr) (c:Nat),s= .slice (some ⟨b,o,none⟩) r c' ∧ps= .slice a k c/\Hid (k=D.length)/\Hid (o=off+i*2)/\Hid (i+r=n)/\Hid (c' =q-i)/\r<=c' ∧c' <=9223372036854775807/\r<=1048576/\2<=r/\k<=1048576/\Hid (k<=i)/\Hid (D++AB n i=P0)/\Hid (wr.ownsRow w.heap.size 24 1 (.slice a k c) k (D.map (EB b off q 2)))/\Hid (Below w.heap.size w wr))
  (fun s _ _=>match s with| .slice _ m _=>m|_=>0)
 case atStart=>exact⟨0,n,off,q,0,[],none,0,rfl,rfl,rfl,by show _=_;omega,by show _=_;omega,rfl,hq,by omega,hb,hn,by omega,Nat.le_refl _,E0,World.ownsRow_nil _ _ _ _,Below.refl _ _⟩
 case round=>
  obtain⟨i,r,o,c',k,D,a,c,rfl,rfl,HK,HO,HI,HC,hrc,hcm,hrm,hr2,hkm,HKI,ED,OW,BW⟩:=hrel
  have PI:=PA.out i (by have:=HI.out;omega)
  rw[show n-i=r by have:=HI.out;omega] at PI
  have hM:=MN.out r
  have hr3:r=3->AM r=3:=fun h=>by rw[h];exact M3.out
  generalize AM r=M at *
  have PI2:Hid (AB n i=(i,M)::AB n (i+M)):=PI
  have HR:Hid _:=Bl (n:=k) (bytes:=24) (by omega) (by decide)
  have ONE:Hid (∀(m:Nat) (u:Value),u∈[Value.slice (some ⟨b,o,none⟩) m c']->u.oneCell' =true):=fun m u hu=>by simp at hu;subst hu;rfl
  have hbs:=BW.out.size
  clear PI PA;by_cases h3:3<r
  ·have hM2:M=2:=by omega
   have h3' :(3:Int)<(r:Int):=by omega
   have hc2:2<=c' :=by omega
   have hc3:(2:Int)<=(c' :Int):=by omega
   have hr2' :(2:Int)<=(r:Int):=by omega
   have hc4:¬c' =2:=by omega
   subst hM2;clear hM hr3;go_wp2_with (at_builtin;refine BI wr rfl _ _ 132 rfl w.heap.size 24 i0 _ 1 24 Tryz.underlying132 hi0 hz0 hz1 hz2 rfl (by decide) (.slice a k c) _ _ rfl OW.out [.slice (some ⟨b,o,none⟩) 2 c'] rfl rfl (ONE.out 2) HR.out.1 HR.out.2 hbs ?_)
   intro v1 w1 o1 h1 b1;obtain⟨a1,c1,hv1,_⟩:=(Row.of_owns o1).len
   subst hv1;have O1:Hid _:=o1
   have B1:Hid _:=BW.out.trans b1
   clear o1 h1 b1 OW BW;go_wp2;go_roundw
   case rel=>exact⟨i+2,r-2,o+2*2,c' - 2,k+1,D++[(i,2)],a1,c1,by simp,rfl,by show _=_;rw[HK.out];simp,by show _=_;have:=HO.out;omega,by show _=_;have:=HI.out;omega,by show _=_;have:=HC.out;omega,by omega,by omega,by omega,by omega,by have:=HI.out;have:=HKI.out;omega,by show _<=_;have:=HKI.out;omega,by show _=_;have:=ED.out;rw[PI2.out] at this;simpa using this,by
    have:=O1.out
    show World.ownsRow _ _ _ _ _ _ _
    rw[List.map_append]
    have e:List.map (EB b off q 2) [(i,2)]=[.slice (some ⟨b,o,none⟩) 2 c']:=by simp[EB,HO.out,HC.out]
    rw[e]
    exact this,B1⟩
   case measure=>simp;omega
  ·have hM2:M=r:=by omega
   have h3' :¬(3:Int)<(r:Int):=by omega
   subst hM2;clear hM hr3;go_wp2_with (at_builtin;refine BI wr rfl _ _ 132 rfl w.heap.size 24 i0 _ 1 24 Tryz.underlying132 hi0 hz0 hz1 hz2 rfl (by decide) (.slice a k c) _ _ rfl OW.out [.slice (some ⟨b,o,none⟩) M c'] rfl rfl (ONE.out M) HR.out.1 HR.out.2 hbs ?_)
   intro v1 w1 o1 h1 b1;have O1:Hid _:=o1
   have B1:Hid _:=BW.out.trans b1
   clear o1 h1 b1 OW BW;go_wp2;go_ret;refine⟨v1,rfl, ?_,B1.out⟩
   have e1:=ED.out
   rw[PI2.out,PE.out (i+M) (by have:=HI.out;omega)] at e1
   rw[←e1,List.length_append,List.map_append, ← HK.out]
   have e:List.map (EB b off q 2) [(i,M)]=[.slice (some ⟨b,o,none⟩) M c']:=by simp[EB,HO.out,HC.out]
   rw[e]
   exact O1.out
end
section
open Go.RowKit

theorem As.parted {w:World} {b1 b2 e1 e2 s1 s2 n1 n2:Nat} {v1 v2:Value} {x1 x2:List Value} (h1:As w b1 e1 s1 v1 n1 x1) (h2:w.ownsRow b2 e2 s2 v2 n2 x2) (he:e1≠e2):∀g,v2.ownBlock=some g->¬wrB v1 g:=by
 intro g hg ⟨n,cap,hv,hc⟩
 obtain⟨_,h2|⟨g2,cap2,cur2,rfl,_,hh2,_⟩⟩:=h2
 ·rw[h2.1] at hg;cases hg
 ·have e2:g2=g:=by simpa[Value.ownBlock] using hg
  subst e2;subst hv;rcases h1 with⟨_,h1|⟨g1,cap1,cur1,e,_,hh1,_⟩⟩|⟨_,_,g',e⟩
  ·simp at h1
  ·simp at e
   obtain⟨rfl,_⟩:=e
   rw[hh1] at hh2
   simp at hh2
   exact he hh2.2
  ·simp at e
   omega

theorem Ai.lt {u:World} {B:Nat} {A:Array Value} (h:Ai u B A):B<u.heap.size:=(Array.getElem?_eq_some_iff.1 h).1
theorem Ai.set0 {u:World} {L:Nat} {x0 x1:Value} (h:Ai u L #[x0,x1]) (t0:Value):Ai (u.setCell ⟨L,0,none⟩ t0) L #[t0,x1]:=heap_setCell_same u L 0 _ 52 t0 h
theorem Ai.set1 {u:World} {L:Nat} {x0 x1:Value} (h:Ai u L #[x0,x1]) (t1:Value):Ai (u.setCell ⟨L,1,none⟩ t1) L #[x0,t1]:=heap_setCell_same u L 1 _ 52 t1 h

structure FkJ (d st:Nat) (k:Nat) (G:Nat->Prop) (w wr:World) (vt vc:Value) (ts:List Tr) (cs:List Int) (vp:Value) (PL:List Value):Prop where
 om:AX d (w.heap.size+k+1) G wr vt vc ts cs
 bx:Ai wr (w.heap.size+k) #[vt,vc]
 bw:Below w.heap.size w wr
 ow:wr.ownsRow (w.heap.size+k+1) st 1 vp PL.length PL

variable {d st k:Nat} {G:Nat->Prop} {w wr w' :World} {vt vc vt' vc' vp:Value} {ts us:List Tr} {cs ds:List Int} {PL:List Value}

theorem FkJ.step (h:FkJ d st k G w wr vt vc ts cs vp PL) (hb:Below wr.heap.size wr w'):FkJ d st k G w w' vt vc ts cs vp PL:=
 ⟨h.om.below hb,h.bx.step hb,Below.and h.bw hb,AJ h.ow hb⟩
theorem FkJ.below' {p:Nat->Prop} (h:FkJ d st k G w wr vt vc ts cs vp PL) (hc:Chg p wr w') (hp:∀g,p g->w.heap.size<=g):Below w.heap.size w w':=
 h.bw.trans (hc.below (fun g hg hg' =>by have:=hp g hg';omega) h.bw.size)
theorem FkJ.stepC (h:FkJ d st k G w wr vt vc ts cs vp PL) (h3:st≠3) (hG:∀g,g=w.heap.size+k->¬G g) (a:FQ wr (w.heap.size+k+1) 3 1 vc (cs.length+ds.length) (Ab cs++Ab ds) vc' w') :
  Ai w' (w.heap.size+k) #[vt,vc]/\FkJ d st k G w (w'.setCell ⟨w.heap.size+k,1,none⟩ vc') vt vc' ts (cs++ds) vp PL:=by
 have hlo:∀g,wrB vc g->w.heap.size+k+1<=g:=fun g hg=>(h.om.rowC.lt g hg).1
 have b1:Ai w' (w.heap.size+k) #[vt,vc]:=h.bx.chg a.2.1 fun e=>by have:=hlo _ e;omega
 have o1:=h.om.addC (ds:=ds) a
 have hc:=At w' (w.heap.size+k) 1 vc'
 refine⟨b1,o1.chg hc (fun g hg=>⟨hG g hg,by omega⟩),b1.set1 vc', ?_, ?_⟩
 ·exact(h.below' a.2.1 fun g hg=>by have:=hlo g hg;omega).setCell (p:=⟨w.heap.size+k,1,none⟩) (Nat.le_add_right _ _) vc'
 ·have q1:=AQ h.ow a.2.1 (As.parted h.om.rowC h.ow (by omega))
  exact AQ q1 hc fun g hg e=>by have:=(q1.lt g hg).1;omega
theorem FkJ.stepT (h:FkJ d st k G w wr vt vc ts cs vp PL) (h3:st≠29) (hG:∀g,g=w.heap.size+k->¬G g) {ys:List TV} {m:Nat} (hm:m=ys.length) (hl:ys.length=us.length) (he:∀i,i<ys.length->Aq d wr (CQ G vt vc) (Ay ys i) (us.getD i Ah))
  {xs:List TV} (hx:xs.length=ts.length) (hx3:∀i,i<xs.length->Aq d wr (CQ G vt vc) (Ay xs i) (ts.getD i Ah)) (ho:As wr (w.heap.size+k+1) 29 5 vt xs.length (Ap xs))
  (a:FQ wr (w.heap.size+k+1) 29 5 vt (xs.length+m) (Ap xs++Ap ys) vt' w') :
  Ai w' (w.heap.size+k) #[vt,vc]/\FkJ d st k G w (w'.setCell ⟨w.heap.size+k,0,none⟩ vt') vt' vc (ts++us) cs vp PL:=by
 have hlo:∀g,wrB vt g->w.heap.size+k+1<=g:=fun g hg=>(ho.lt g hg).1
 have b1:Ai w' (w.heap.size+k) #[vt,vc]:=h.bx.chg a.2.1 fun e=>by have:=hlo _ e;omega
 have o1:=h.om.addT hm hl he hx hx3 a
 have hc:=At w' (w.heap.size+k) 0 vt'
 refine⟨b1,o1.chg hc (fun g hg=>⟨hG g hg,by omega⟩),b1.set0 vt', ?_, ?_⟩
 ·exact(h.below' a.2.1 fun g hg=>by have:=hlo g hg;omega).setCell (p:=⟨w.heap.size+k,0,none⟩) (Nat.le_add_right _ _) vt'
 ·have q1:=AQ h.ow a.2.1 (As.parted ho h.ow (by omega))
  exact AQ q1 hc fun g hg e=>by have:=(q1.lt g hg).1;omega
end
end Go.Proofs.YtnakaabnjelffaaGreat
