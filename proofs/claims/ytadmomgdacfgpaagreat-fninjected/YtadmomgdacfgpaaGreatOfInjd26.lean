/-
  The library's Grow and Concat, over trees and over numbers: any number of parts.
  The program's rows of trees: rowOf, kidsOf.
  The program's inPlaceOf: what came of a kid stands where it stood.
-/
import Derived.Test.YtadmomgdacfgpaaGreatOfInjd24
import Derived.Test.YtadmomgdacfgpaaGreatOfInjd18
import Derived.Test.YtadmomgdacfgpaaGreatOfInjd15
import Derived.Test.YtadmomgdacfgpaaGreatOfInjd17
import Derived.Deep.RegionHeld3
namespace Go.Proofs.YtadmomgdacfgpaaGreat
set_option maxRecDepth 100000
set_option maxHeartbeats 8000000
section
open Go.RowKit

open Go.Lib in
theorem Ty (n:Nat) (w:World) (hn:n<=8388608) :
  Calls Tryz.prog 139 #[.slice none 0 0, .int .i64 n] w fun e w' =>∃v',e= .returned v' ∧w'.ownsRow w.heap.size 3 1 v' 0 []/\Below w.heap.size w w' :=by
 obtain⟨i0,hi0,hz0,hz1,hz2⟩:=info_parts Tryz.info3
 rcases Nat.eq_zero_or_pos n with rfl|hp
 ·go_enter Tryz.func139,Tryz.ntmps139
  go_wp2;go_ret;exact⟨_,rfl,World.ownsRow_nil _ _ _ _,Below.refl _ _⟩
 ·have hrz:∀ty,(Builtin.append_ #[27,3] ty #[.slice none 0 0, .int .i64 (n:Int)]).run Tryz.prog w =
    .ok (.slice (some ⟨w.heap.size,0,none⟩) n (grownCap w n 0 3)) (w.drew.alloc (.cells (#[]++Builtin.zeroCells (Value.int .i64 0).cells n++Builtin.zeroCells (Value.int .i64 0).cells (grownCap w n 0 3-n)) 3)):=fun ty=>by
   have h:=Lib.run_append_grow_zeros w 27 3 ty 3 i0 _ .i64 .i64 Tryz.underlying27 Tryz.underlying3 hi0 hz0 none 0 0 [] (run_firstCells_none w.drew i0.size 0 0 0) n hp (by rw[hz1];decide) (by omega) (by omega)
    (by rw[hz2];omega)
    (by rw[Nat.zero_add,hz2];exact growslice_fits hp (by omega))
   rw[Nat.zero_add] at h
   exact h
  have HRZ:Hid _:=hrz
  have hGn:n<=grownCap w n 0 3:=grownCap_ge w _ _ _
  have hG63:=grownCap_le_maxLen w n 0 3 (by unfold maxLen;omega)
  generalize grownCap w n 0 3=G at *
  have hb1:(0:Int)<(n:Int):=by omega
  have hb2:¬((n:Int)<0):=by omega
  have hgm:G<=9223372036854775807:=by
   have:=hG63
   unfold maxLen at this;omega
  have OW:Hid ((w.alloc (.cells (Builtin.zeroCells #[.int .i64 0] n++Builtin.zeroCells #[.int .i64 0] (G-n)) 3)).drew.ownsRow w.heap.size 3 1 (.slice (some ⟨w.heap.size,0,none⟩) 0 G) 0 []):=
   ⟨by simp, .inr ⟨w.heap.size,G,_,rfl,Nat.le_refl _,heap_alloc_new w _,Nat.zero_le _,hG63,by
    simp only[Array.size_append,size_zeroCells]
    show n*1+(G-n)*1=G*1
    omega,by simp⟩⟩
  clear hrz hG63;go_enter Tryz.func139,Tryz.ntmps139
  go_wp2_with (at_builtin;refine Lib.wpList_append_run _ rfl _ _ _ _ rfl _ _ rfl rfl _ _ (HRZ.out _) ?_)
  all_goals
   go_ret;exact⟨_,rfl,OW.out,((Below.refl _ _).alloc (Nat.le_refl _) _).drew⟩

theorem PY (b off q:Nat) (P:List Pt) (w:World) (hq:P.length<=q) (hqm:q<=maxLen) (hp0:0<P.length) (hc:∀i,i<P.length->w.cell? ⟨b,off+i,none⟩=some (DT P i).1) (hP:WA w 1 P) (hn:ptN P P.length<=2097152) :
  Calls Tryz.prog 133 #[.slice (some ⟨b,off,none⟩) P.length q] w fun e w' =>∃v',e= .returned v' ∧w'.ownsRow w.heap.size 3 1 v' (ptN P P.length) (ptC P P.length)/\Below w.heap.size w w' :=by
 obtain⟨i0,hi0,hz0,hz1,hz2⟩:=info_parts Tryz.info3
 have HC:Hid _:=hc
 have HP:Hid (∀i,i<P.length->Row w (DT P i).1 (DT P i).2.1 (DT P i).2.2/\(DT P i).2.2.length=(DT P i).2.1*1/\∀y∈(DT P i).2.2,y.oneCell' =true):=hP
 have NS:Hid (∀j,j<P.length->ptN P (j+1)=ptN P j+(DT P j).2.1):=fun j=>Ks P j
 have CS:Hid (∀j,j<P.length->ptC P (j+1)=ptC P j++(DT P j).2.2):=fun j=>Ox P j
 have NL:Hid (∀j,j<=P.length->ptN P j<=2097152):=fun j hj=>Nat.le_trans (Qr P j _ hj) hn
 have N0:Hid (ptN P 0=0):=rfl
 have C0:Hid (ptC P 0=[]):=rfl
 unfold maxLen at hqm;clear hc hP;generalize hk:P.length=k at *
 clear hk;go_enter Tryz.func133,Tryz.ntmps133
 go_wp2;go_loopw [3,11] (fun sz i wr=>w=wr/\∃(j s:Nat),i= .int .i64 j/\sz= .int .i64 s/\j<=k/\s<=2097152/\Hid (s=ptN P j)) (fun _ i _=>k-(intOf i).toNat)
 case atStart=>exact⟨rfl,0,0,rfl,rfl,Nat.zero_le _,Nat.zero_le _,N0.out.symm⟩
 case round=>
  obtain⟨rfl,j,s,rfl,rfl,hjk,hs,HS⟩:=hrel
  by_cases hlt:j<k
  ·obtain⟨hr, -⟩:=HP.out j (by omega)
   obtain⟨aj,qj,ej,_⟩:=hr.len
   have cj:=HC.out j hlt
   rw[ej] at cj
   have e1:=NS.out j hlt
   have e2:=NL.out (j+1) (by omega)
   have e3:=HS.out
   generalize (DT P j).2.1=m at *
   have hm:s+m<=2097152:=by omega
   have HS2:Hid (s+m=ptN P (j+1)):=by show _=_;omega
   have hp:¬((s:Int)+(m:Int)<0):=by omega
   clear e1 e2 e3 hr ej;go_wp2;go_roundw
   case rel=>exact⟨trivial,j+1,s+m,by go_num,by go_num,by omega,hm,HS2⟩
   case measure=>simp[intOf];omega
  ·have hjk' :j=k:=by omega
   have HS2:Hid (s=ptN P k):=by show _=_;rw[←hjk'];exact HS.out
   have GA:Hid (Calls Tryz.prog 139 #[.slice none 0 0, .int .i64 s] w fun e w' =>∃v',e= .returned v' ∧w'.ownsRow w.heap.size 3 1 v' 0 []/\Below w.heap.size w w'):=Ty s w (by omega)
   clear hjk' HS;go_wp2_with fail;refine Calls.mono GA.out ?_
   rintro e w2 ⟨v2,rfl,o2,hb2⟩
   obtain⟨a2,c2,hv2,_⟩:=(Row.of_owns o2).len
   subst hv2;have O2:Hid (w2.ownsRow w.heap.size 3 1 (.slice a2 0 c2) 0 []):=o2
   have B2:Hid (Below w.heap.size w w2):=hb2
   clear o2 hb2;go_wp2;go_loopw [6,27] (fun out i wr=>Hid (Below w.heap.size w wr)/\∃(j' m' c' :Nat) (a' :Option Addr),i= .int .i64 j' ∧j' <=k/\m' <=2097152/\out= .slice a' m' c' ∧Hid (m' =ptN P j')/\Hid (wr.ownsRow w.heap.size 3 1 (.slice a' m' c') m' (ptC P j'))) (fun _ i _=>k-(intOf i).toNat)
   case atStart=>exact⟨B2,0,0,c2,a2,rfl,Nat.zero_le _,Nat.zero_le _,rfl,N0.out.symm,by show World.ownsRow _ _ _ _ _ _ _;rw[C0.out];exact O2.out⟩
   case round=>
    obtain⟨BQ,j',m',c',a',rfl,hjk2,hm',rfl,HM,OQ⟩:=hrel
    clear O2 B2;by_cases hlt2:j' < k
    ·obtain⟨hr,hl,h1⟩:=HP.out j' (by omega)
     obtain⟨aj,qj,ej,_⟩:=hr.len
     have cj:=HC.out j' hlt2
     have e1:=NS.out j' hlt2
     have e2:=NL.out (j' +1) (by omega)
     have e3:=HM.out
     have e4:=CS.out j' hlt2
     rw[ej] at cj hr
     have d0:=Ab BQ.out (Aa cj) cj
     generalize (DT P j').2.1=m at *
     generalize (DT P j').2.2=X at *
     have HR:Hid (m' +m<=maxLen/\(m' +m)*8<=140737488355328):=⟨by unfold maxLen;omega,by omega⟩
     have RR:Hid _:=hr.below BQ.out
     have H1:Hid _:=h1
     have HL:Hid _:=hl
     have hm2:m' +m<=2097152:=by omega
     have HM2:Hid (m' +m=ptN P (j' +1)):=by show _=_;omega
     have E4:Hid _:=e4
     have hbs:w.heap.size<=wr.heap.size:=BQ.out.size
     clear e1 e2 e3 e4 hr hl h1 ej cj;go_wp2_with (at_builtin;refine Fj wr rfl _ _ 27 rfl w.heap.size 3 i0 _ 1 8 Tryz.underlying27 hi0 hz0 hz1 hz2 rfl (by decide) (.slice a' m' c') m' _ rfl OQ.out (.slice aj m qj) m X rfl RR.out HL.out H1.out HR.out.1 HR.out.2 hbs ?_)
     intro v5 w5 o5 _ b5;obtain⟨a5,c5,hv5,_⟩:=(Row.of_owns o5).len
     subst hv5;have FIN:Hid (w5.ownsRow w.heap.size 3 1 (.slice a5 (m' +m) c5) (m' +m) (ptC P (j' +1))/\Below w.heap.size w w5):=⟨by rw[E4.out];exact o5,BQ.out.trans b5⟩
     clear o5 b5 d0;go_wp2;go_roundw
     case rel=>exact⟨FIN.out.2,j' +1,m' +m,c5,a5,by go_num,by omega,hm2,rfl,HM2,FIN.out.1⟩
     case measure=>simp[intOf];omega
    ·have hjk' :j' =k:=by omega
     have FIN:Hid (wr.ownsRow w.heap.size 3 1 (.slice a' m' c') (ptN P k) (ptC P k)):=by
      have h1:=OQ.out
      have h2:=HM.out
      rw[hjk'] at h1 h2
      rw[h2] at h1 ⊢
      exact h1
     clear hjk';go_wp2;go_ret;exact⟨_,rfl,FIN.out,BQ.out⟩
end
section
open Go.RowKit

abbrev W8:Nat->Prop:=fun _=>True

theorem Ah.one {n:Nat} {w:World} {F:Nat->Prop} {v:Value} {x:TV} {T:Tr} (h:Au n w F x T) (hr:An w F v 1 (Ao [x])):Ah n w F v [T]:=
 ⟨[x],rfl,hr,fun i hi=>by
  have e:i=0:=by simp at hi;omega
  subst e;exact h⟩

theorem Hx (n:Nat) (F:Nat->Prop) (x:TV) (T:Tr) (w:World) (ht:Au n w F x T) :
  Calls Tryz.prog 95 #[x.val] w fun e w' =>∃vt,e= .returned (.agg #[vt, .slice none 0 0])/\Ah n w' (fun g=>F g∨w.heap.size<=g) vt [T]/\Below w.heap.size w w' :=by
 obtain⟨a1,a2,a3,a4,q1,q2,q3,q4,hx⟩:=ht.treeAt.shape
 subst hx;have TT:Hid _:=ht
 clear ht;show Calls Tryz.prog 95 #[.agg #[.bool T.leaf, .slice a1 T.pairs.length q1, .slice a2 T.cuts.length q2, .slice a3 T.kids.length q3, .slice a4 T.buf.length q4]] w _
 generalize T.leaf=lf at *
 generalize T.pairs.length=n1 at *
 generalize T.cuts.length=n2 at *
 generalize T.kids.length=n3 at *
 generalize T.buf.length=n4 at *
 go_enter Tryz.func95,Tryz.ntmps95
 go_wp2;refine bodyPost_ret (v:= .agg #[.slice (some ⟨w.heap.size+1+1,0,none⟩) 1 1, .slice none 0 0]) (by simp[results,Tryz.results95,go_sem]) rfl ⟨_,rfl, ?_,al3 _ _ _ _⟩
 have h:=(TT.out.below (al3 w (.cells #[.bool lf, .slice a1 n1 q1, .slice a2 n2 q2, .slice a3 n3 q3, .slice a4 n4 q4] 30) (.cells #[.slice (some ⟨w.heap.size+1+1,0,none⟩) 1 1, .slice none 0 0] 65) (.cells #[.bool lf, .slice a1 n1 q1, .slice a2 n2 q2, .slice a3 n3 q3, .slice a4 n4 q4] 30))).mono (G:=fun g=>F g∨w.heap.size<=g) (fun g hg=> .inl hg)
 refine Ah.one h ((An.laid _ [.bool lf, .slice a1 n1 q1, .slice a2 n2 q2, .slice a3 n3 q3, .slice a4 n4 q4] 30 _ (by simp)).mono fun g hg=> .inr (by omega))

theorem QA (lf:Bool) (a1 a2 a3 a4:Option Addr) (n1 n2 n3 n4 q1 q2 q3 q4:Nat) (w:World) :
  Calls Tryz.prog 98 #[.agg #[.bool lf, .slice a1 n1 q1, .slice a2 n2 q2, .slice a3 n3 q3, .slice a4 n4 q4]] w fun e w' =>e= .returned (.agg #[.slice a3 n3 q3, .slice a2 n2 q2])/\Below w.heap.size w w' :=by
 go_enter Tryz.func98,Tryz.ntmps98
 go_wp2;refine bodyPost_ret (v:= .agg #[.slice a3 n3 q3, .slice a2 n2 q2]) (by simp[results,Tryz.results98,go_sem]) rfl ⟨rfl,al2 _ _ _⟩
end
section
open Go.RowKit

def Ai (u:World) (B:Nat) (A:Array Value):Prop:=u.heap[B]? =some (.cells A 65 (0,0))
theorem Ai.start (w:World) (A:Array Value):Ai (w.alloc (.cells A 65)) w.heap.size A:=heap_alloc_new w _
theorem Ai.step {u w' :World} {B:Nat} {A:Array Value} (h:Ai u B A) (hb:Below u.heap.size u w'):Ai w' B A:=(hb.block B (Array.getElem?_eq_some_iff.1 h).1).trans h
theorem Ai.two {u:World} {B:Nat} {x0 x1:Value} (h:Ai u B #[x0,x1]):u.cell? ⟨B,0,none⟩=some x0/\u.cell? ⟨B,1,none⟩=some x1:=
  ⟨by rw[cell_of_row u B 0 _ 65 (0,0) h];rfl,by rw[cell_of_row u B 1 _ 65 (0,0) h];rfl⟩
theorem Ai.free {u:World} {B:Nat} {x0 x1:Value} (h:Ai u B #[x0,x1]):u.frozen? ⟨B,0,none⟩=false/\u.frozen? ⟨B,1,none⟩=false:=⟨frozen_of_row u B 0 _ 65 h,frozen_of_row u B 1 _ 65 h⟩

abbrev setR (u:World) (L:Nat) (x y:Value):World:=(u.setCell ⟨L,0,none⟩ x).setCell ⟨L,1,none⟩ y
theorem Ai.set2 {u:World} {L:Nat} {x0 x1:Value} (h:Ai u L #[x0,x1]) (x y:Value):Ai (setR u L x y) L #[x,y]:=
  heap_setCell_same _ L 1 _ 65 y (heap_setCell_same u L 0 _ 65 x h)
theorem AA (u:World) (L:Nat) (x y:Value):Chg (fun g=>g=L) u (setR u L x y):=((Chg.refl (fun g=>g=L) u).setAt L 0 rfl x).setAt L 1 rfl y
theorem Ai.chg {w w' :World} {L:Nat} {A:Array Value} {p:Nat->Prop} (h:Ai w L A) (hc:Chg p w w') (hp:¬p L):Ai w' L A:=(hc.block L (Array.getElem?_eq_some_iff.1 h).1 hp).trans h
theorem Ai.setR {u:World} {B L:Nat} {A:Array Value} (h:Ai u B A) (x y:Value) (hn:¬B=L):Ai (setR u L x y) B A:=h.chg (AA u L x y) hn
theorem Ct {u u' :World} {b:Nat} {o:Obj} (hb:Below u.heap.size u u') (h:u.heap[b]? =some o):u'.heap[b]? =some o:=(hb.block b (Array.getElem?_eq_some_iff.1 h).1).trans h
theorem FE {u:World} {b:Nat} {o:Obj} (h:u.heap[b]? =some o):u.drew.heap[b]? =some o:=h
theorem D9 {u:World} {b:Nat} {o:Obj} (h:b=u.heap.size):(u.alloc o).heap[b]? =some o:=by subst h;exact heap_alloc_new u o
theorem VT {u:World} {B:Nat} (h:∃p p',Ai u (B+1) #[p,p']):B+2<=u.heap.size:=by
  obtain⟨p,p',h⟩:=h
  have:=(Array.getElem?_eq_some_iff.1 h).1
  omega
theorem VO (p q r:Pt):ptN [p,q,r] 3=p.2.1+(q.2.1+r.2.1):=by simp[ptN]
theorem Wx (p q r:Pt):ptC [p,q,r] 3=p.2.2++(q.2.2++r.2.2):=by simp[ptC]
theorem Vi (b:Nat) (v1 v2 v3:Value) (n1 n2 n3:Nat) (X1 X2 X3:List Value) (u:World) (hb:u.heap[b]? =some (.cells #[v1,v2,v3] 28 (0,0)))
    (h1:Row u v1 n1 X1/\X1.length=n1*5/\∀y∈X1,y.oneCell' =true) (h2:Row u v2 n2 X2/\X2.length=n2*5/\∀y∈X2,y.oneCell' =true) (h3:Row u v3 n3 X3/\X3.length=n3*5/\∀y∈X3,y.oneCell' =true) (hn:n1+(n2+n3)<=2097152) :
    Calls Tryz.prog 132 #[.slice (some ⟨b,0,none⟩) 3 3] u fun e w' =>∃v,e= .returned v/\w'.ownsRow u.heap.size 30 5 v (n1+(n2+n3)) (X1++(X2++X3))/\Below u.heap.size u w' :=by
  have:=Qm b 0 3 [(v1,n1,X1),(v2,n2,X2),(v3,n3,X3)] u (Nat.le_refl 3) (by decide) (Nat.succ_pos 2) (fun j hj=>by rw[Nat.zero_add,cell_of_row u b j _ 28 (0,0) hb];exact match j,hj with|0,_=>rfl|1,_=>rfl|2,_=>rfl)
    (fun j hj=>match j,hj with|0,_=>h1|1,_=>h2|2,_=>h3) (by show ptN _ 3<=_;rw[VO];exact hn)
  rw[show[(v1,n1,X1),(v2,n2,X2),(v3,n3,X3)].length=3 from rfl,VO,Wx] at this
  exact this
theorem UV (b:Nat) (v1 v2 v3:Value) (n1 n2 n3:Nat) (X1 X2 X3:List Value) (u:World) (hb:u.heap[b]? =some (.cells #[v1,v2,v3] 27 (0,0)))
    (h1:Row u v1 n1 X1/\X1.length=n1*1/\∀y∈X1,y.oneCell' =true) (h2:Row u v2 n2 X2/\X2.length=n2*1/\∀y∈X2,y.oneCell' =true) (h3:Row u v3 n3 X3/\X3.length=n3*1/\∀y∈X3,y.oneCell' =true) (hn:n1+(n2+n3)<=2097152) :
    Calls Tryz.prog 133 #[.slice (some ⟨b,0,none⟩) 3 3] u fun e w' =>∃v,e= .returned v/\w'.ownsRow u.heap.size 3 1 v (n1+(n2+n3)) (X1++(X2++X3))/\Below u.heap.size u w' :=by
  have:=PY b 0 3 [(v1,n1,X1),(v2,n2,X2),(v3,n3,X3)] u (Nat.le_refl 3) (by decide) (Nat.succ_pos 2) (fun j hj=>by rw[Nat.zero_add,cell_of_row u b j _ 27 (0,0) hb];exact match j,hj with|0,_=>rfl|1,_=>rfl|2,_=>rfl)
    (fun j hj=>match j,hj with|0,_=>h1|1,_=>h2|2,_=>h3) (by show ptN _ 3<=_;rw[VO];exact hn)
  rw[show[(v1,n1,X1),(v2,n2,X2),(v3,n3,X3)].length=3 from rfl,VO,Wx] at this
  exact this

theorem Lc (b1 o1 q1 b2 o2 q2:Nat) (a5:Option Addr) (q5:Nat) (a6:Option Addr) (q6:Nat) (xs ys:List TV) (cs ds:List Int) (i:Nat) (w:World)
    (h1:Row w (.slice (some ⟨b1,o1,none⟩) xs.length q1) xs.length (Ao xs)) (h2:Row w (.slice (some ⟨b2,o2,none⟩) cs.length q2) cs.length (Ad cs))
    (h5:Row w (.slice a5 ys.length q5) ys.length (Ao ys)) (h6:Row w (.slice a6 ds.length q6) ds.length (Ad ds))
    (hi:i<xs.length) (hc:cs.length+1=xs.length) (hc0:0<cs.length) (hx:xs.length<=524288) (hy:ys.length<=524288) (hd:ds.length<=524288)
    (g1:∀y∈Ao xs,y.oneCell' =true) (g2:∀y∈Ao ys,y.oneCell' =true) :
    Calls Tryz.prog 119 #[.agg #[.slice (some ⟨b1,o1,none⟩) xs.length q1, .slice (some ⟨b2,o2,none⟩) cs.length q2], .int .i64 (i:Nat), .slice a6 ds.length q6, .slice a5 ys.length q5] w fun e w' =>∃v1 v2,e= .returned (.agg #[v1,v2])∧
      w'.ownsRow w.heap.size 30 5 v1 (xs.take i++ys++xs.drop (i+1)).length (Ao (xs.take i++ys++xs.drop (i+1)))/\w'.ownsRow w.heap.size 3 1 v2 (cs.take i++ds++cs.drop i).length (Ad (cs.take i++ds++cs.drop i))/\Below w.heap.size w w' :=by
  have hq1:xs.length<=q1/\q1<=maxLen:=by obtain⟨_,_,_,_,h,h',h'',_⟩:=h1;simp at h;omega
  have hq2:cs.length<=q2/\q2<=maxLen:=by obtain⟨_,_,_,_,h,h',h'',_⟩:=h2;simp at h;omega
  unfold maxLen at hq1 hq2;have RT:∀w',Below w.heap.size w w' ->Row w' (.slice (some ⟨b1,o1,none⟩) i q1) i (Ao (xs.take i)):=fun w' hb=>(h1.below hb).headT i (by omega) (by omega)
  have RC:∀w',Below w.heap.size w w' ->Row w' (.slice (some ⟨b2,o2,none⟩) i q2) i (Ad (cs.take i)):=fun w' hb=>(h2.below hb).headI i (by omega) (by omega)
  have RT3:∀w',Below w.heap.size w w' ->Row w' (.slice (if q1=i+1 then some ⟨b1,o1,none⟩ else some ⟨b1,o1+(i+1)*5,none⟩) (xs.length-(i+1)) (q1-(i+1))) (xs.length-(i+1)) (Ao (xs.drop (i+1))):=fun w' hb=>by
    have:=(h1.below hb).sub (size:=5) (i+1) xs.length (by omega) (Nat.le_refl _) (by omega)
    rw[FH,List.take_of_length_le (by rw[Bf];simp)] at this
    simpa[Go.WideShapes.add_plain] using this
  have RC3:∀w',Below w.heap.size w w' ->Row w' (.slice (if q2=i then some ⟨b2,o2,none⟩ else some ⟨b2,o2+i,none⟩) (cs.length-i) (q2-i)) (cs.length-i) (Ad (cs.drop i)):=fun w' hb=>by
    have:=(h2.below hb).sub (size:=1) i cs.length (by omega) (Nat.le_refl _) (by omega)
    rw[GC,List.take_of_length_le (by rw[Bo];simp)] at this
    simpa[Go.WideShapes.add_plain] using this
  generalize hA3:(if q1=i+1 then some (⟨b1,o1,none⟩:Addr) else some ⟨b1,o1+(i+1)*5,none⟩)=A3 at RT3
  generalize hC3:(if q2=i then some (⟨b2,o2,none⟩:Addr) else some ⟨b2,o2+i,none⟩)=C3 at RC3
  have KT:Hid (∀(u:World) (b:Nat),Below w.heap.size w u->u.heap[b]? =some (.cells #[.slice (some ⟨b1,o1,none⟩) i q1, .slice a5 ys.length q5, .slice A3 (xs.length-(i+1)) (q1-(i+1))] 28 (0,0))→
      Calls Tryz.prog 132 #[.slice (some ⟨b,0,none⟩) 3 3] u fun e w' =>∃v,e= .returned v/\w'.ownsRow u.heap.size 30 5 v (xs.take i++ys++xs.drop (i+1)).length (Ao (xs.take i++ys++xs.drop (i+1)))/\Below u.heap.size u w'):=fun u b hb hh=>by
    have:=Vi b _ _ _ i ys.length (xs.length-(i+1)) _ _ _ u hh ⟨RT u hb,by rw[Bf,List.length_take,Nat.min_eq_left (by omega)],K5 g1 i⟩ ⟨h5.below hb,Bf _,g2⟩ ⟨RT3 u hb,by rw[Bf,List.length_drop],Ly g1 (i+1)⟩ (by omega)
    rw[List.append_assoc,Ez,Ez,show(xs.take i++(ys++xs.drop (i+1))).length=i+(ys.length+(xs.length-(i+1))) by simp;omega]
    exact this
  have KC:Hid (∀(u:World) (b:Nat),Below w.heap.size w u->u.heap[b]? =some (.cells #[.slice (some ⟨b2,o2,none⟩) i q2, .slice a6 ds.length q6, .slice C3 (cs.length-i) (q2-i)] 27 (0,0))→
      Calls Tryz.prog 133 #[.slice (some ⟨b,0,none⟩) 3 3] u fun e w' =>∃v,e= .returned v/\w'.ownsRow u.heap.size 3 1 v (cs.take i++ds++cs.drop i).length (Ad (cs.take i++ds++cs.drop i))/\Below u.heap.size u w'):=fun u b hb hh=>by
    have:=UV b _ _ _ i ds.length (cs.length-i) _ _ _ u hh ⟨RC u hb,by rw[Bo,List.length_take,Nat.min_eq_left (by omega),Nat.mul_one],B9 _⟩ ⟨h6.below hb,by rw[Bo,Nat.mul_one],B9 _⟩ ⟨RC3 u hb,by rw[Bo,List.length_drop,Nat.mul_one],B9 _⟩ (by omega)
    rw[List.append_assoc,Fp,Fp,show(cs.take i++(ds++cs.drop i)).length=i+(ds.length+(cs.length-i)) by simp;omega]
    exact this
  generalize Ao (xs.take i++ys++xs.drop (i+1))=YT at *
  generalize (xs.take i++ys++xs.drop (i+1)).length=NT at *
  generalize Ad (cs.take i++ds++cs.drop i)=YC at *
  generalize (cs.take i++ds++cs.drop i).length=NC at *
  clear RT RC RT3 RC3 h1 h2 h5 h6 g1 g2;generalize xs.length=nx at *
  generalize ys.length=ny at *
  generalize cs.length=nc at *
  generalize ds.length=nd at *
  have X0:Hid (Ai ((w.alloc (.cells #[.slice (some ⟨b1,o1,none⟩) nx q1, .slice (some ⟨b2,o2,none⟩) nc q2] 65)).alloc (.cells #[.slice none 0 0, .slice none 0 0] 65)) w.heap.size #[.slice (some ⟨b1,o1,none⟩) nx q1, .slice (some ⟨b2,o2,none⟩) nc q2]):=(Ai.start w _).step (al1 _ _)
  have X1:Hid (Ai ((w.alloc (.cells #[.slice (some ⟨b1,o1,none⟩) nx q1, .slice (some ⟨b2,o2,none⟩) nc q2] 65)).alloc (.cells #[.slice none 0 0, .slice none 0 0] 65)) (w.heap.size+1) #[.slice none 0 0, .slice none 0 0]):=by
    have:=Ai.start (w.alloc (.cells #[.slice (some ⟨b1,o1,none⟩) nx q1, .slice (some ⟨b2,o2,none⟩) nc q2] 65)) #[.slice none 0 0, .slice none 0 0]
    rw[World.size_alloc] at this
    exact this
  have B0:Hid (Below w.heap.size w ((w.alloc (.cells #[.slice (some ⟨b1,o1,none⟩) nx q1, .slice (some ⟨b2,o2,none⟩) nc q2] 65)).alloc (.cells #[.slice none 0 0, .slice none 0 0] 65))):=al2 _ _ _
  have ST:Hid (∀u u',Below u.heap.size u u' ->(u.cell? ⟨w.heap.size,0,none⟩=some (.slice (some ⟨b1,o1,none⟩) nx q1)/\u.cell? ⟨w.heap.size,1,none⟩=some (.slice (some ⟨b2,o2,none⟩) nc q2)/\Hid ((∃p p',Ai u (w.heap.size+1) #[p,p'])/\Ai u w.heap.size #[.slice (some ⟨b1,o1,none⟩) nx q1, .slice (some ⟨b2,o2,none⟩) nc q2]/\Below w.heap.size w u))->(u'.cell? ⟨w.heap.size,0,none⟩=some (.slice (some ⟨b1,o1,none⟩) nx q1)/\u'.cell? ⟨w.heap.size,1,none⟩=some (.slice (some ⟨b2,o2,none⟩) nc q2)/\Hid ((∃p p',Ai u' (w.heap.size+1) #[p,p'])/\Ai u' w.heap.size #[.slice (some ⟨b1,o1,none⟩) nx q1, .slice (some ⟨b2,o2,none⟩) nc q2]/\Below w.heap.size w u'))):=fun u u' hb h=>⟨(h.2.2.out.2.1.step hb).two.1,(h.2.2.out.2.1.step hb).two.2,(by obtain⟨x,y,hx⟩:=h.2.2.out.1;exact⟨x,y,hx.step hb⟩),h.2.2.out.2.1.step hb,Below.and h.2.2.out.2.2 hb⟩
  have KA:=hid (fun (u:World) (o:Obj) (h:(u.cell? ⟨w.heap.size,0,none⟩=some (.slice (some ⟨b1,o1,none⟩) nx q1)/\u.cell? ⟨w.heap.size,1,none⟩=some (.slice (some ⟨b2,o2,none⟩) nc q2)/\Hid ((∃p p',Ai u (w.heap.size+1) #[p,p'])/\Ai u w.heap.size #[.slice (some ⟨b1,o1,none⟩) nx q1, .slice (some ⟨b2,o2,none⟩) nc q2]/\Below w.heap.size w u)))=>ST.out u _ (al1 u o) h)
  have SD:=hid (fun u (h:(u.cell? ⟨w.heap.size,0,none⟩=some (.slice (some ⟨b1,o1,none⟩) nx q1)/\u.cell? ⟨w.heap.size,1,none⟩=some (.slice (some ⟨b2,o2,none⟩) nc q2)/\Hid ((∃p p',Ai u (w.heap.size+1) #[p,p'])/\Ai u w.heap.size #[.slice (some ⟨b1,o1,none⟩) nx q1, .slice (some ⟨b2,o2,none⟩) nc q2]/\Below w.heap.size w u)))=>ST.out u _ (Below.refl _ _).drew h)
  have SZ:=hid (fun u u' (_:Below u.heap.size u u') (h:(u.cell? ⟨w.heap.size,0,none⟩=some (.slice (some ⟨b1,o1,none⟩) nx q1)/\u.cell? ⟨w.heap.size,1,none⟩=some (.slice (some ⟨b2,o2,none⟩) nc q2)/\Hid ((∃p p',Ai u (w.heap.size+1) #[p,p'])/\Ai u w.heap.size #[.slice (some ⟨b1,o1,none⟩) nx q1, .slice (some ⟨b2,o2,none⟩) nc q2]/\Below w.heap.size w u)))=>VT h.2.2.out.1)
  have KS:Hid (∀(u:World) (x y:Value),(u.cell? ⟨w.heap.size,0,none⟩=some (.slice (some ⟨b1,o1,none⟩) nx q1)/\u.cell? ⟨w.heap.size,1,none⟩=some (.slice (some ⟨b2,o2,none⟩) nc q2)/\Hid ((∃p p',Ai u (w.heap.size+1) #[p,p'])/\Ai u w.heap.size #[.slice (some ⟨b1,o1,none⟩) nx q1, .slice (some ⟨b2,o2,none⟩) nc q2]/\Below w.heap.size w u))->((setR u (w.heap.size+1) x y).cell? ⟨w.heap.size,0,none⟩=some (.slice (some ⟨b1,o1,none⟩) nx q1)/\(setR u (w.heap.size+1) x y).cell? ⟨w.heap.size,1,none⟩=some (.slice (some ⟨b2,o2,none⟩) nc q2)/\Hid ((∃p p',Ai (setR u (w.heap.size+1) x y) (w.heap.size+1) #[p,p'])/\Ai (setR u (w.heap.size+1) x y) w.heap.size #[.slice (some ⟨b1,o1,none⟩) nx q1, .slice (some ⟨b2,o2,none⟩) nc q2]/\Below w.heap.size w (setR u (w.heap.size+1) x y)))):=fun u x y h=>by
    obtain⟨x0,y0,hx0⟩:=h.2.2.out.1
    have h0:=h.2.2.out.2.1.setR (L:=w.heap.size+1) x y (by omega)
    exact⟨h0.two.1,h0.two.2,⟨x,y,hx0.set2 x y⟩,h0,(h.2.2.out.2.2.setCell (p:=⟨w.heap.size+1,0,none⟩) (Nat.le_succ _) x).setCell (p:=⟨w.heap.size+1,1,none⟩) (Nat.le_succ _) y⟩
  have hh1:(0:Int)<=(i:Int):=by omega
  have hh2:(i:Int)<=(q1:Int):=by omega
  have hh3:(i:Int)+1<=(nx:Int):=by omega
  have hh4:(i:Int)<=(nc:Int):=by omega
  have hh6:(0:Int)<=(i:Int)+1:=by omega
  have hh7:(nx:Int)<=(q1:Int):=by omega
  have hh8:(nc:Int)<=(q2:Int):=by omega
  have hh9:(i:Int)+1<=(q1:Int):=by omega
  have hh10:i+1<=nx:=by omega
  have hh11:i+1<=q1:=by omega
  have hh5:(i:Int)<=(q2:Int):=by omega
  have hw:IntKind.i64.wrap ((i:Int)+1)=(i:Int)+1:=by rw[IntKind.wrap_i64];omega
  have ht1:((i:Int)+1).toNat=i+1:=by omega
  go_enter Tryz.func119,Tryz.ntmps119
  go_wp2_with fail;refine Er (fun W=>(W.cell? ⟨w.heap.size,0,none⟩=some (.slice (some ⟨b1,o1,none⟩) nx q1)/\W.cell? ⟨w.heap.size,1,none⟩=some (.slice (some ⟨b2,o2,none⟩) nc q2)/\Hid ((∃p p',Ai W (w.heap.size+1) #[p,p'])/\Ai W w.heap.size #[.slice (some ⟨b1,o1,none⟩) nx q1, .slice (some ⟨b2,o2,none⟩) nc q2]/\Below w.heap.size w W))) ⟨X0.out.two.1,X0.out.two.2,⟨_,_,X1.out⟩,X0.out,B0.out⟩ ?_
  rintro W SW0
  have SW:=ST.out W W.drew (Below.refl _ _).drew SW0
  clear X0 X1 B0;go_region_held3 (fun u=>(u.cell? ⟨w.heap.size,0,none⟩=some (.slice (some ⟨b1,o1,none⟩) nx q1)/\u.cell? ⟨w.heap.size,1,none⟩=some (.slice (some ⟨b2,o2,none⟩) nc q2)/\Hid ((∃p p',Ai u (w.heap.size+1) #[p,p'])/\Ai u w.heap.size #[.slice (some ⟨b1,o1,none⟩) nx q1, .slice (some ⟨b2,o2,none⟩) nc q2]/\Below w.heap.size w u))) (first|assumption|exact KA.out _ _ (by assumption)|exact KS.out _ _ _ (by assumption)) (first
    |(go_at_call 132;refine Calls.mono (KT.out _ _ (And.right (And.right (Hid.out (And.right (And.right (by first|exact SD.out _ (KA.out _ _ SW0)|exact SD.out _ (KA.out _ _ (KA.out _ _ SW0))|exact SW2|exact KA.out _ _ SW2)))))) (by first|exact FE (D9 (by simp))|exact FE (Ct (al1 _ _) (D9 (by simp)))|exact D9 (by simp)|exact Ct PB2.out (FE (Ct (al1 _ _) (D9 (by simp))))|exact Ct PB2.out (FE (D9 (by simp))))) ?_;rintro e w1 ⟨v1,rfl,p1,pb1⟩;have SW1:=ST.out _ _ pb1 (by first|exact SD.out _ (KA.out _ _ SW0)|exact SD.out _ (KA.out _ _ (KA.out _ _ SW0))|exact SW2|exact KA.out _ _ SW2);obtain⟨c1,d1,hv1,_⟩:=(Row.of_owns p1).len;subst hv1;have P1:Hid (∀x,Below w1.heap.size w1 x->x.ownsRow (w.heap.size+2) 30 5 (.slice c1 NT d1) NT YT):=fun x hx=>AF (AK p1 (SZ.out _ _ pb1 (by first|exact SD.out _ (KA.out _ _ SW0)|exact SD.out _ (KA.out _ _ (KA.out _ _ SW0))|exact SW2|exact KA.out _ _ SW2))) hx;have PB1:Hid _:=pb1;obtain⟨x0,y0,hx0⟩:=SW1.2.2.out.1;obtain⟨f0,f1⟩:=hx0.free;obtain⟨g0,g1⟩:=hx0.two;have BX1:Hid _:=hx0;clear p1 pb1 hx0)
    |(go_at_call 133;refine Calls.mono (KC.out _ _ (And.right (And.right (Hid.out (And.right (And.right (by first|exact SD.out _ (KA.out _ _ SW0)|exact SD.out _ (KA.out _ _ (KA.out _ _ SW0))|exact SW1|exact KA.out _ _ SW1)))))) (by first|exact FE (D9 (by simp))|exact FE (Ct (al1 _ _) (D9 (by simp)))|exact D9 (by simp)|exact Ct PB1.out (FE (Ct (al1 _ _) (D9 (by simp))))|exact Ct PB1.out (FE (D9 (by simp))))) ?_;rintro e w2 ⟨v2,rfl,p2,pb2⟩;have SW2:=ST.out _ _ pb2 (by first|exact SD.out _ (KA.out _ _ SW0)|exact SD.out _ (KA.out _ _ (KA.out _ _ SW0))|exact SW1|exact KA.out _ _ SW1);obtain⟨c2,d2,hv2,_⟩:=(Row.of_owns p2).len;subst hv2;have P2:Hid (∀x,Below w2.heap.size w2 x->x.ownsRow (w.heap.size+2) 3 1 (.slice c2 NC d2) NC YC):=fun x hx=>AF (AK p2 (SZ.out _ _ pb2 (by first|exact SD.out _ (KA.out _ _ SW0)|exact SD.out _ (KA.out _ _ (KA.out _ _ SW0))|exact SW1|exact KA.out _ _ SW1))) hx;have PB2:Hid _:=pb2;obtain⟨x0,y0,hx0⟩:=SW2.2.2.out.1;obtain⟨f0,f1⟩:=hx0.free;obtain⟨g0,g1⟩:=hx0.two;have BX2:Hid _:=hx0;clear p2 pb2 hx0))
  all_goals
    go_wp2;first
    | (have Z := (Ai.set2 BX2.out (.slice c1 NT d1) (.slice c2 NC d2)).two
       have h1:=P1.out w2 (by first|exact PB2.out|exact Below.and (al1 _ _) PB2.out)
       have h2:=P2.out w2 (Below.refl _ _)
       refine bodyPost_ret (v:= .agg #[.slice c1 NT d1, .slice c2 NC d2]) (by simp[results,Tryz.results119,go_sem,Z.1,Z.2]) rfl ⟨_,_,rfl, ?_, ?_,(KS.out w2 (.slice c1 NT d1) (.slice c2 NC d2) SW2).2.2.out.2.2⟩
       · exact AK (Az h1 (AA w2 (w.heap.size+1) _ _) (fun g hg e=>by have:=(h1.lt g hg).1;omega)) (by omega)
       · exact AK (Az h2 (AA w2 (w.heap.size+1) _ _) (fun g hg e=>by have:=(h2.lt g hg).1;omega)) (by omega))
    | (have Z := (Ai.set2 BX1.out (.slice c1 NT d1) (.slice c2 NC d2)).two
       have h1:=P1.out w1 (Below.refl _ _)
       have h2:=P2.out w1 (by first|exact PB1.out|exact Below.and (al1 _ _) PB1.out)
       refine bodyPost_ret (v:= .agg #[.slice c1 NT d1, .slice c2 NC d2]) (by simp[results,Tryz.results119,go_sem,Z.1,Z.2]) rfl ⟨_,_,rfl, ?_, ?_,(KS.out w1 (.slice c1 NT d1) (.slice c2 NC d2) SW1).2.2.out.2.2⟩
       · exact AK (Az h1 (AA w1 (w.heap.size+1) _ _) (fun g hg e=>by have:=(h1.lt g hg).1;omega)) (by omega)
       · exact AK (Az h2 (AA w1 (w.heap.size+1) _ _) (fun g hg e=>by have:=(h2.lt g hg).1;omega)) (by omega))

theorem Ib (n:Nat) (F:Nat->Prop) (vt vc ut uc:Value) (m x:TM) (i:Nat) (w:World) (ht:Ah n w F vt m.1) (hc:An w F vc m.2.length (Ad m.2)) (hu:Ah n w F ut x.1) (hd:An w F uc x.2.length (Ad x.2))
    (hl:m.2.length+1=m.1.length) (h2:2<=m.1.length) (hi:i<m.1.length) (hb1:m.1.length<=524288) (hb2:x.1.length<=524288) (hb3:x.2.length<=524288) :
    Calls Tryz.prog 119 #[.agg #[vt,vc], .int .i64 (i:Nat),uc,ut] w fun e w' =>∃v1 v2,e= .returned (.agg #[v1,v2])/\Ah n w' (fun b=>F b∨w.heap.size<=b) v1 (Bv m i x).1/\An w' (fun b=>F b∨w.heap.size<=b) v2 (Bv m i x).2.length (Ad (Bv m i x).2)/\Below w.heap.size w w' :=by
  obtain⟨xs,ex,rx⟩:=ht.els
  obtain⟨ys,ey,ry⟩:=hu.els
  have gx:=EX ex.2
  have gy:=EX ey.2
  rw[←ex.1] at rx
  rw[←ey.1] at ry
  have qx:=rx.row
  have qy:=ry.row
  have qc:=hc.row
  have qd:=hd.row
  obtain⟨av,b1,o1,c1,rfl,_,_,ha1,_⟩:=rx.row
  obtain⟨bv,b2,o2,c2,rfl,_,_,ha2,_⟩:=hc.row
  obtain⟨a5,b5,o5,c5,rfl,_⟩:=ry.row
  obtain⟨a6,b6,o6,c6,rfl,_⟩:=hd.row
  have hx1:=ex.1
  have hy1:=ey.1
  have:=ha1 (by omega)
  subst this;have:=ha2 (by omega)
  subst this;refine(Lc b1 o1 c1 b2 o2 c2 a5 c5 a6 c6 xs ys m.2 x.2 i w qx qc qy qd (by omega) (by omega) (by omega) (by omega) (by omega) hb3 gx gy).mono ?_
  rintro e w' ⟨v1,v2,rfl,O1,O2,hb⟩
  refine⟨v1,v2,rfl, ?_, ?_,hb⟩
  · have el := ((ex.take i).append ey).append (ex.drop (i + 1))
    have el' :Els n w' (fun b=>F b∨w.heap.size<=b) (xs.take i++ys++xs.drop (i+1)) (Bv m i x).1:=(el.below hb).mono fun g hg=> .inl hg
    exact el'.trees ((An.of_owns O1).mono fun g hg=> .inr (O1.lt g hg).1)
  · exact(An.of_owns O2).mono fun g hg=> .inr (O2.lt g hg).1
end
end Go.Proofs.YtadmomgdacfgpaaGreat
