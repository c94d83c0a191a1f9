/-
  Rows and trees with the blocks that they lie in: what stays when other blocks are written.
  The contract of the model's l3Pending.
  The contract of the program's wayDown.
  The sorted map's drop, by a contract.
  The model's way of putting into a map, pair by pair, comes to the plain function.
-/
import Derived.Test.YtcmofojechfccaaGreatOfDrain7
import Derived.Test.YtcmofojechfccaaGreatOfDrain12
import Derived.Test.YtcmofojechfccaaGreatOfDrain9
import Derived.Deep.DeepCutAuto
import Derived.Test.YtcmofojechfccaaGreatOfDrain3
import Derived.Test.YtcmofojechfccaaGreatOfDrain4
namespace Go.Proofs.YtcmofojechfccaaGreat
set_option maxRecDepth 100000
set_option maxHeartbeats 8000000
section
open Go.RowKit

def Plain (w:World) (b:Nat):Prop:=∃(c:Array Value) (t:Nat),w.heap[b]? =some (.cells c t (0,0))
theorem Plain.lt {w:World} {b:Nat} (h:Plain w b):b<w.heap.size:=by
 obtain⟨c,t,h⟩:=h
 exact(Array.getElem?_eq_some_iff.1 h).1
def RowF (w:World) (F:Nat->Prop) (v:Value) (n:Nat) (xs:List Value):Prop:=
 ∃(a:Option Addr) (b off cap:Nat),v= .slice a n cap/\n<=cap/\cap<=maxLen/\(0<n->a=some ⟨b,off,none⟩/\F b/\Plain w b)/\(∀j u,xs[j]? =some u->w.cell? ⟨b,off+j,none⟩=some u)/\(a=none->cap=0)/\(n=0->xs=[])
theorem RowF.row {w:World} {F:Nat->Prop} {v:Value} {n:Nat} {xs:List Value} (h:RowF w F v n xs):Row w v n xs:=by
 obtain⟨a,b,off,cap,h1,h2,h3,h4,h5,h6,_⟩:=h
 exact⟨a,b,off,cap,h1,h2,h3,fun hn=>(h4 hn).1,h5,h6⟩
theorem RowF.mono {w:World} {F G:Nat->Prop} {v:Value} {n:Nat} {xs:List Value} (h:RowF w F v n xs) (hFG:∀g,F g->G g):RowF w G v n xs:=by
 obtain⟨a,b,off,cap,h1,h2,h3,h4,h5,h6,h7⟩:=h
 exact⟨a,b,off,cap,h1,h2,h3,fun hn=>⟨(h4 hn).1,hFG _ (h4 hn).2.1,(h4 hn).2.2⟩,h5,h6,h7⟩
theorem RowF.frame {w w' :World} {F:Nat->Prop} {v:Value} {n:Nat} {xs:List Value} (h:RowF w F v n xs) (hf:∀g,F g->g<w.heap.size->w'.heap[g]? =w.heap[g]?):RowF w' F v n xs:=by
 obtain⟨a,b,off,cap,h1,h2,h3,h4,h5,h6,h7⟩:=h
 refine⟨a,b,off,cap,h1,h2,h3,fun hn=>⟨(h4 hn).1,(h4 hn).2.1, ?_⟩,fun j u hj=> ?_,h6,h7⟩
 ·obtain⟨e1,e2,c,t,e3⟩:=h4 hn
  exact⟨c,t,(hf b e2 (Array.getElem?_eq_some_iff.1 e3).1).trans e3⟩
 have hc:=h5 j u hj
 rcases Nat.eq_zero_or_pos n with h0|h0
 ·rw[h7 h0] at hj;simp at hj
 ·rw[World.cell?_of_block (hf b (h4 h0).2.1 (cell_lt hc))]
  exact hc
theorem RowF.lt {w:World} {F:Nat->Prop} {v:Value} {n:Nat} {xs:List Value} (h:RowF w F v n xs) (_hx:0<n->xs≠[]):RowF w (fun g=>F g/\g<w.heap.size) v n xs:=by
 obtain⟨a,b,off,cap,h1,h2,h3,h4,h5,h6,h7⟩:=h
 exact⟨a,b,off,cap,h1,h2,h3,fun hn=>⟨(h4 hn).1,⟨(h4 hn).2.1,(h4 hn).2.2.lt⟩,(h4 hn).2.2⟩,h5,h6,h7⟩
theorem RowF.of_owns {w:World} {base e size n:Nat} {v:Value} {xs:List Value} (h:w.ownsRow base e size v n xs):RowF w (fun g=>v.ownBlock=some g) v n xs:=by
 have h0:=h
 obtain⟨hl,h|⟨g,cap,cur,rfl,hg,hh,hn,hcap,hsz,htake⟩⟩:=h
 ·obtain⟨rfl,rfl⟩:=h
  have hx:xs=[]:=by simpa using hl
  subst hx
  exact⟨none,0,0,0,rfl,Nat.le_refl _,Nat.zero_le _,fun h=>absurd h (Nat.lt_irrefl _),fun j u hj=>by simp at hj,fun _=>rfl,fun _=>rfl⟩
 ·refine⟨some ⟨g,0,none⟩,g,0,cap,rfl,hn,hcap,fun _=>⟨rfl,rfl,_,_,hh⟩,fun j u hj=> ?_,(fun h=>by cases h),fun h=> ?_⟩
  ·have hlt:j<n*size:=by
    have:=(List.getElem?_eq_some_iff.1 hj).1
    omega
   rw[Nat.zero_add,h0.cellAt j hlt]
   exact hj
  ·subst h
   exact List.length_eq_zero_iff.1 (by omega)
theorem flat_get {xs:List Value} {i m size:Nat} (j:Nat):((xs.drop (i*size)).take (m*size))[j]? =if j<m*size then xs[i*size+j]? else none:=by
 rw[List.getElem?_take]
 split
 ·rw[List.getElem?_drop]
 ·rfl

theorem flatP_ne (l:List (Int × Int)):(l.length=0->flatP l=[])/\(0<l.length->flatP l≠[]):=by
 have:=flatP_length l
 exact⟨fun h=>List.length_eq_zero_iff.1 (by omega),fun h e=>by rw[e] at this;simp at this;omega⟩
theorem flatI_ne (l:List Int):(l.length=0->flatI l=[])/\(0<l.length->flatI l≠[]):=by
 have:=flatI_length l
 exact⟨fun h=>List.length_eq_zero_iff.1 (by omega),fun h e=>by rw[e] at this;simp at this;omega⟩
theorem flatM_ne (l:ML):(l.length=0->flatM l=[])/\(0<l.length->flatM l≠[]):=by
 have:=flatM_length l
 exact⟨fun h=>List.length_eq_zero_iff.1 (by omega),fun h e=>by rw[e] at this;simp at this;omega⟩
theorem flatT_ne (l:List TV):(l.length=0->flatT l=[])/\(0<l.length->flatT l≠[]):=by
 have:=flatT_length l
 exact⟨fun h=>List.length_eq_zero_iff.1 (by omega),fun h e=>by rw[e] at this;simp at this;omega⟩

def TreeF:Nat->World->(Nat->Prop)->TV->Tr->Prop
 |0,_,_,_,_=>False
 |n+1,w,F,x,T=>x.lf=T.leaf/\RowF w F x.p T.pairs.length (flatP T.pairs)/\RowF w F x.c T.cuts.length (flatI T.cuts)/\RowF w F x.b T.buf.length (flatM T.buf)∧
   ∃xs:List TV,xs.length=T.kids.length/\RowF w F x.k xs.length (flatT xs)/\∀i,i<xs.length->TreeF n w F (tvAt xs i) (kidT T i)
def TreesF (n:Nat) (w:World) (F:Nat->Prop) (v:Value) (ts:List Tr):Prop:=
 ∃xs:List TV,xs.length=ts.length/\RowF w F v xs.length (flatT xs)/\∀i,i<xs.length->TreeF n w F (tvAt xs i) (ts.getD i noTr)
theorem TreeF.treeAt:∀ {n:Nat} {w:World} {F:Nat->Prop} {x:TV} {T:Tr},TreeF n w F x T->TreeAt n w x T
 |0,_,_,_,_,h=>h
 |_+1,_,_,_,_,⟨h1,h2,h3,h4,xs,h5,h6,h7⟩=>⟨h1,h2.row,h3.row,h4.row,xs,h5,h6.row,fun i hi=>(h7 i hi).treeAt⟩
theorem TreeF.mono:∀ {n:Nat} {w:World} {F G:Nat->Prop} {x:TV} {T:Tr},TreeF n w F x T->(∀g,F g->G g)->TreeF n w G x T
 |0,_,_,_,_,_,h,_=>h
 |_+1,_,_,_,_,_,⟨h1,h2,h3,h4,xs,h5,h6,h7⟩,k=>⟨h1,h2.mono k,h3.mono k,h4.mono k,xs,h5,h6.mono k,fun i hi=>(h7 i hi).mono k⟩
theorem TreeF.frame:∀ {n:Nat} {w w' :World} {F:Nat->Prop} {x:TV} {T:Tr},TreeF n w F x T->(∀g,F g->g<w.heap.size->w'.heap[g]? =w.heap[g]?)->TreeF n w' F x T
 |0,_,_,_,_,_,h,_=>h
 |_+1,_,_,_,_,_,⟨h1,h2,h3,h4,xs,h5,h6,h7⟩,k=>⟨h1,h2.frame k,h3.frame k,h4.frame k,xs,h5,h6.frame k,fun i hi=>(h7 i hi).frame k⟩
theorem TreeF.lt:∀ {n:Nat} {w:World} {F:Nat->Prop} {x:TV} {T:Tr},TreeF n w F x T->TreeF n w (fun g=>F g/\g<w.heap.size) x T
 |0,_,_,_,_,h=>h
 |_+1,_,_,_,_,⟨h1,h2,h3,h4,xs,h5,h6,h7⟩=>⟨h1,h2.lt (flatP_ne _).2,h3.lt (flatI_ne _).2,h4.lt (flatM_ne _).2,xs,h5,h6.lt (flatT_ne _).2,fun i hi=>(h7 i hi).lt⟩
theorem TreeF.up:∀ {n:Nat} {w:World} {F:Nat->Prop} {x:TV} {T:Tr},TreeF n w F x T->TreeF (n+1) w F x T
 |0,_,_,_,_,h=>h.elim
 |_+1,_,_,_,_,⟨h1,h2,h3,h4,xs,h5,h6,h7⟩=>⟨h1,h2,h3,h4,xs,h5,h6,fun i hi=>(h7 i hi).up⟩
theorem TreeF.le {n m:Nat} {w:World} {F:Nat->Prop} {x:TV} {T:Tr} (h:TreeF n w F x T) (hm:n<=m):TreeF m w F x T:=by
 induction hm with
 |refl=>exact h
 |step _ ih=>exact ih.up
theorem TreeF.chg {n:Nat} {w w' :World} {F P:Nat->Prop} {x:TV} {T:Tr} (h:TreeF n w F x T) (hc:Chg P w w') (hd:∀g,F g->¬P g):TreeF n w' F x T:=h.frame fun g hg hl=>hc.block g hl (hd g hg)
theorem TreeF.below {n:Nat} {w w' :World} {F:Nat->Prop} {x:TV} {T:Tr} (h:TreeF n w F x T) (hb:Below w.heap.size w w'):TreeF n w' F x T:=h.frame fun g _ hl=>hb.block g hl
theorem RowF.below {w w' :World} {F:Nat->Prop} {v:Value} {n:Nat} {xs:List Value} (h:RowF w F v n xs) (hb:Below w.heap.size w w'):RowF w' F v n xs:=h.frame fun g _ hl=>hb.block g hl
theorem RowF.chg {w w' :World} {F P:Nat->Prop} {v:Value} {n:Nat} {xs:List Value} (h:RowF w F v n xs) (hc:Chg P w w') (hd:∀g,F g->¬P g):RowF w' F v n xs:=h.frame fun g hg hl=>hc.block g hl (hd g hg)
theorem TreesF.below {n:Nat} {w w' :World} {F:Nat->Prop} {v:Value} {ts:List Tr} (h:TreesF n w F v ts) (hb:Below w.heap.size w w'):TreesF n w' F v ts:=by
 obtain⟨xs,h1,h2,h3⟩:=h
 exact⟨xs,h1,h2.below hb,fun i hi=>(h3 i hi).below hb⟩
theorem TreesF.chg {n:Nat} {w w' :World} {F P:Nat->Prop} {v:Value} {ts:List Tr} (h:TreesF n w F v ts) (hc:Chg P w w') (hd:∀g,F g->¬P g):TreesF n w' F v ts:=by
 obtain⟨xs,h1,h2,h3⟩:=h
 exact⟨xs,h1,h2.chg hc hd,fun i hi=>(h3 i hi).chg hc hd⟩
theorem TreesF.mono {n:Nat} {w:World} {F G:Nat->Prop} {v:Value} {ts:List Tr} (h:TreesF n w F v ts) (k:∀g,F g->G g):TreesF n w G v ts:=by
 obtain⟨xs,h1,h2,h3⟩:=h
 exact⟨xs,h1,h2.mono k,fun i hi=>(h3 i hi).mono k⟩
theorem TreeF.parts {n:Nat} {w:World} {F:Nat->Prop} {x:TV} {T:Tr} (h:TreeF (n+1) w F x T) :
  x.lf=T.leaf/\RowF w F x.p T.pairs.length (flatP T.pairs)/\RowF w F x.c T.cuts.length (flatI T.cuts)/\RowF w F x.b T.buf.length (flatM T.buf)/\TreesF n w F x.k T.kids:=by
 obtain⟨h1,h2,h3,h4,xs,h5,h6,h7⟩:=h
 exact⟨h1,h2,h3,h4,xs,h5,h6,h7⟩
theorem TreeF.mk {n:Nat} {w:World} {F:Nat->Prop} {x:TV} {T:Tr} (h1:x.lf=T.leaf) (h2:RowF w F x.p T.pairs.length (flatP T.pairs)) (h3:RowF w F x.c T.cuts.length (flatI T.cuts)) (h4:RowF w F x.b T.buf.length (flatM T.buf)) (h5:TreesF n w F x.k T.kids):TreeF (n+1) w F x T:=by
 obtain⟨xs,h5,h6,h7⟩:=h5
 exact⟨h1,h2,h3,h4,xs,h5,h6,h7⟩
theorem flatT_oneF {n:Nat} {w:World} {F:Nat->Prop} {ts:List Tr} {xs:List TV} (h:∀i,i<xs.length->TreeF n w F (tvAt xs i) (ts.getD i noTr)):∀y∈flatT xs,y.oneCell' =true:=by
 intro y hy
 obtain⟨x,hx,hy2⟩:=List.mem_flatMap.1 hy
 obtain⟨i,hi,rfl⟩:=List.getElem_of_mem hx
 have:=h i hi
 have e:tvAt xs i=xs[i]:=by simp[tvAt,List.getD,hi]
 rw[e] at this
 obtain⟨a1,a2,a3,a4,c1,c2,c3,c4,hs⟩:=this.treeAt.shape
 rw[hs] at hy2
 simp[TV.cells] at hy2
 rcases hy2 with rfl|rfl|rfl|rfl|rfl<;>rfl

theorem RowF.nil (w:World) (F:Nat->Prop):RowF w F (.slice none 0 0) 0 []:=
 ⟨none,0,0,0,rfl,Nat.le_refl _,Nat.zero_le _,fun h=>absurd h (Nat.lt_irrefl _),fun j u hj=>by simp at hj,fun _=>rfl,fun _=>rfl⟩
theorem TreesF.nil (n:Nat) (w:World) (F:Nat->Prop):TreesF n w F (.slice none 0 0) []:=⟨[],rfl,RowF.nil w F,fun i hi=>by simp at hi⟩
end
section
open Go.RowKit

theorem box_cells5 {u:World} {B:Nat} {x0 x1 x2 x3 x4:Value} (h:OneAt u B #[x0,x1,x2,x3,x4]) :
  u.cell? ⟨B,0,none⟩=some x0/\u.cell? ⟨B,1,none⟩=some x1/\u.cell? ⟨B,2,none⟩=some x2/\u.cell? ⟨B,3,none⟩=some x3/\u.cell? ⟨B,4,none⟩=some x4:=by
 have:=h.cells
 exact⟨by rw[this];rfl,by rw[this];rfl,by rw[this];rfl,by rw[this];rfl,by rw[this];rfl⟩
theorem OneAt.stepB {u w' :World} {B N:Nat} {A:Array Value} (h:OneAt u B A) (hb:Below N u w') (hN:B<N):OneAt w' B A:=(hb.block B hN).trans h
theorem cell_lowB {w w' :World} {N b o:Nat} {v:Value} (hb:Below N w w') (hN:b<N) (h:w.cell? ⟨b,o,none⟩=some v):w'.cell? ⟨b,o,none⟩=some v:=(hb.cell (p:=⟨b,o,none⟩) hN).trans h
end
section
open Go.RowKit

def WayIs (m:Nat):Prop:=∀(n:Nat) (x:TV) (T:Tr) (lo hi k:Int) (w0 w:World),TreeAt n w0 x T->Below w0.heap.size w0 w->depthF m T lo hi≠0→
 Calls Tryz.prog 162 #[x.val, .int .i64 k] w fun e w' =>∃(y:TV) (v' :Value),e= .returned (.tuple #[y.val,v'])/\TreeAt n w0 y (leafF m T k)/\w'.ownsRow w.heap.size 38 3 v' (pendF m T k).length (flatM (pendF m T k))/\Below w.heap.size w w'

theorem OneAt.chg {w w' :World} {L:Nat} {A:Array Value} {p:Nat->Prop} (h:OneAt w L A) (hc:Chg p w w') (hp:¬p L):OneAt w' L A:=
 (hc.block L (Array.getElem?_eq_some_iff.1 h).1 hp).trans h

theorem box_all5 {u:World} {B:Nat} {x0 x1 x2 x3 x4:Value} (h:OneAt u B #[x0,x1,x2,x3,x4]) :
  (u.cell? ⟨B,0,none⟩=some x0/\u.cell? ⟨B,1,none⟩=some x1/\u.cell? ⟨B,2,none⟩=some x2/\u.cell? ⟨B,3,none⟩=some x3/\u.cell? ⟨B,4,none⟩=some x4)∧
  (u.frozen? ⟨B,0,none⟩=false/\u.frozen? ⟨B,1,none⟩=false/\u.frozen? ⟨B,2,none⟩=false/\u.frozen? ⟨B,3,none⟩=false/\u.frozen? ⟨B,4,none⟩=false):=
 ⟨box_cells5 h,frozen_of_row u B 0 _ 35 h,frozen_of_row u B 1 _ 35 h,frozen_of_row u B 2 _ 35 h,frozen_of_row u B 3 _ 35 h,frozen_of_row u B 4 _ 35 h⟩

abbrev set5 (u:World) (L:Nat) (t0 t1 t2 t3 t4:Value):World:=((((u.setCell ⟨L,0,none⟩ t0).setCell ⟨L,1,none⟩ t1).setCell ⟨L,2,none⟩ t2).setCell ⟨L,3,none⟩ t3).setCell ⟨L,4,none⟩ t4
theorem OneAt.set5 {u:World} {L:Nat} {x0 x1 x2 x3 x4:Value} (h:OneAt u L #[x0,x1,x2,x3,x4]) (t0 t1 t2 t3 t4:Value):OneAt (set5 u L t0 t1 t2 t3 t4) L #[t0,t1,t2,t3,t4]:=
 heap_setCell_same _ L 4 _ 35 t4 (heap_setCell_same _ L 3 _ 35 t3 (heap_setCell_same _ L 2 _ 35 t2 (heap_setCell_same _ L 1 _ 35 t1 (heap_setCell_same u L 0 _ 35 t0 h))))
theorem chg_set5 (u:World) (L:Nat) (t0 t1 t2 t3 t4:Value):Chg (fun g=>g=L) u (set5 u L t0 t1 t2 t3 t4):=
 (((((Chg.refl (fun g=>g=L) u).setAt L 0 rfl t0).setAt L 1 rfl t1).setAt L 2 rfl t2).setAt L 3 rfl t3).setAt L 4 rfl t4
end
section
open Go.RowKit

theorem drop_none (B:Nat) (F:Nat->Prop) (ks vs:List Int) (k:Int) (w:World) (h:Srt w B F ks vs) (hs:ks.Pairwise (· <= ·)) (hbig:ks.length<=1048576) (hf:ks.contains k=false) :
  Calls Tryz.prog 179 #[.pointer (some ⟨B,0,none⟩), .int .i64 k] w fun e w'=>
   e= .returned (.tuple #[])/\∃q,w' =w.drewN q:=by
 obtain⟨kv,vv,h1,h2,h3,h4,h5,h6,h7⟩:=h
 obtain⟨ka,kc,hkv⟩:=owns_val h2
 have c0:w.cell? ⟨B,0,none⟩=some (.slice ka ks.length kc):=by rw[cell_of_cells h1, ← hkv];rfl
 have SO:=search_own kv ks k w h2 hs (by omega)
 rw[hf,hkv] at SO
 have S2:Hid _:=(fun (_:Nat)=>SO)
 clear SO h1 h2 h3 h4 h5 h6 h7 hkv hs hf
 generalize ks.countP (fun x=>decide (x<k))=p at *
 go_enter Tryz.func179,Tryz.ntmps179
 go_wp2_with fail
 refine(S2.out 0).mono ?_
 rintro e w1 ⟨rfl,q,rfl⟩
 go_wp2
 exact bodyPost_ret (v:= .tuple #[]) (by simp[results,Tryz.results179,go_sem]) rfl ⟨rfl,q,rfl⟩

theorem drop_found (B:Nat) (F:Nat->Prop) (ks vs:List Int) (k:Int) (w:World) (h:Srt w B F ks vs) (hs:ks.Pairwise (· <= ·)) (hl:vs.length=ks.length) (hbig:ks.length<=1048576) (hf:ks.contains k=true) :
  Calls Tryz.prog 179 #[.pointer (some ⟨B,0,none⟩), .int .i64 k] w fun e w'=>
   e= .returned (.tuple #[])/\∃F',Srt w' B F' (ks.take (ks.countP (· < k))++ks.drop (ks.countP (· < k)+1)) (vs.take (ks.countP (· < k))++vs.drop (ks.countP (· < k)+1))/\Chg F w w' ∧(∀g,F' g->F g∨w.heap.size<=g):=by
 obtain⟨kv,vv,h1,h2,h3,h4,h5,h6,h7⟩:=h
 have HL:Hid (vs.length=ks.length):=hl
 clear hl
 have hp:ks.countP (fun x=>decide (x<k))<ks.length:=found_lt hf
 obtain⟨ka,kc,hkv⟩:=owns_val h2
 obtain⟨va,vc,hvv⟩:=owns_val h3
 have SO:=search_own kv ks k w h2 hs (by omega)
 rw[hf] at SO
 generalize ks.countP (fun x=>decide (x<k))=p at *
 have c0:w.cell? ⟨B,0,none⟩=some (.slice ka ks.length kc):=by rw[cell_of_cells h1, ← hkv];rfl
 have S2:Hid _:=(fun (_:Nat)=>SO)
 clear SO
 have INFO:Hid _:=And.intro h1 (And.intro h2 (And.intro h3 (And.intro h4 (And.intro h6 (And.intro h7 (And.intro hkv hvv))))))
 rw[hkv] at S2
 clear h1 h2 h3 h4 h6 h7 hkv hvv hs hf
 go_enter Tryz.func179,Tryz.ntmps179
 go_wp2_with fail
 refine(S2.out 0).mono ?_
 rintro e w1 ⟨rfl,q,rfl⟩
 go_wp2_with fail
 obtain⟨h1,h2,h3,h4,h6,h7,hkv,hvv⟩:=INFO.out
 have b1:Below w.heap.size w (w.drewN q):=below_drewN (Below.refl _ _) q
 have INS:=delete_own kv ks p (w.drewN q) (owns_below h2 b1) hp
 rw[hkv,show((p+1:Nat):Int)=(p:Int)+1 from by omega] at INS
 refine INS.mono ?_
 rintro e w2 ⟨kv',rfl,o2,c2,b2⟩
 rw[←hkv] at c2 b2
 have C2:Chg (fun g=>kv.ownBlock=some g) w w2:=(Chg.of_below b1).trans c2 (fun _ _ e=>e)
 have hkB:¬kv.ownBlock=some B:=fun e=>by
  obtain⟨_,cur,hc⟩:=owns_lt h2 e
  rw[h1] at hc;simp at hc
 have hB2:=row_chg h1 C2 hkB
 obtain⟨a2,q2,hv2⟩:=owns_val o2
 have d0:w2.cell? ⟨B,0,none⟩=some (.slice ka ks.length kc):=by rw[cell_of_cells hB2, ← hkv];rfl
 have d1:w2.cell? ⟨B,1,none⟩=some (.slice va vs.length vc):=by rw[cell_of_cells hB2, ← hvv];rfl
 have f0:w2.frozen? ⟨B,0,none⟩=false:=frozen_of_cells hB2
 have f1:w2.frozen? ⟨B,1,none⟩=false:=frozen_of_cells hB2
 have hvk:∀g,vv.ownBlock=some g->¬kv.ownBlock=some g:=fun g hg hk=>h4 g hk hg
 have O3:w2.ownsRow 0 3 1 vv vs.length (vs.map (Value.int .i64)):=owns_chg h3 C2 hvk
 have hvB:vv.ownBlock≠some B:=fun e=>by
  obtain⟨_,cur,hc⟩:=owns_lt h3 e
  rw[h1] at hc;simp at hc
 have I2:Hid _:=And.intro hv2 (And.intro o2 (And.intro C2 (And.intro b2 (And.intro hB2 (And.intro O3 hvB)))))
 rw[hv2]
 clear hv2 o2 C2 b2 hB2 O3 hvB c2 INS b1 hkB hvk c0 h1 h2 h3 h4 h6 h7 hkv hvv
 generalize ks.length-1=m at *
 go_wp2_with fail
 obtain⟨hv2,o2,C2,b2,hB2,O3,hvB⟩:=I2.out
 obtain⟨h1,h2,h3,h4,h6,h7,hkv,hvv⟩:=INFO.out
 have cB:Chg (fun g=>g=B) w2 (w2.setCell ⟨B,0,none⟩ (.slice a2 m q2)):=Chg.setCell (F:=fun g=>g=B) (Chg.refl _ _) (fun _=>rfl) _
 have O4:(w2.setCell ⟨B,0,none⟩ (.slice a2 m q2)).ownsRow 0 3 1 vv vs.length (vs.map (Value.int .i64)):=owns_chg O3 cB (fun g hg e=>hvB (e ▸ hg))
 have INS:=delete_own vv vs p _ O4 (by rw[HL.out];exact hp)
 rw[hvv,show((p+1:Nat):Int)=(p:Int)+1 from by omega] at INS
 refine INS.mono ?_
 rintro e w4 ⟨vv',rfl,o4,c4,b4⟩
 rw[←hvv] at c4 b4
 have C4:Chg (fun g=>vv.ownBlock=some g) (w2.setCell ⟨B,0,none⟩ kv') w4:=by rw[hv2];exact c4
 have hB3:(w2.setCell ⟨B,0,none⟩ kv').heap[B]? =some (.cells #[kv',vv] 190 (0,0)):=by
  rw[heap_setCell_same w2 B 0 _ 190 kv' hB2];rfl
 have hB4:=row_chg hB3 C4 hvB
 obtain⟨a4,q4,hv4⟩:=owns_val o4
 have e1:w4.cell? ⟨B,1,none⟩=some (.slice va vs.length vc):=by rw[cell_of_cells hB4, ← hvv];rfl
 have g1:w4.frozen? ⟨B,1,none⟩=false:=frozen_of_cells hB4
 have hlenk:(ks.take p++ks.drop (p+1)).length=m:=by have:=o2.1;simp at this ⊢;omega
 have hlenv:(vs.take p++vs.drop (p+1)).length=vs.length-1:=by have:=HL.out;simp;omega
 rw[←hlenk] at o2
 rw[←hlenv] at o4
 have FIN:Hid _:=And.intro hv4 (Srt.ins (F:=F) h1 h3 h4 h5 h6 h7 o2 C2 (Or.inl b2) (Nat.le_refl _) hB2 o4 C4 (Or.inl b4) (Nat.le_refl _))
 rw[hv4]
 clear hv4 o4 C4 b4 hB4 hB3 c4 INS O4 cB h1 h2 h3 h4 h6 h7 hkv hvv hv2 o2 C2 b2 hB2 O3 hvB hlenk hlenv
 generalize vs.length-1=m' at *
 go_wp2
 obtain⟨hv4,F',r1,r2,r3⟩:=FIN.out
 rw[hv4] at r1 r2
 go_end0
 exact⟨rfl,F',r1,r2,r3⟩
end
section
def stp (k v:Int) (s:PL × Bool) (p:Int × Int):PL × Bool:=
 if s.2=false/\k<=p.1 then (if p.1=k then (s.1++[(k,v)],true) else (s.1++[(k,v)]++[p],true))
 else (if p.1=k then s else (s.1++[p],s.2))
def stpTo (k v:Int) (l:PL) (i:Nat):PL × Bool:=(l.take i).foldl (stp k v) ([],false)
def stpEnd (k v:Int) (s:PL × Bool):PL:=if s.2=true then s.1 else s.1++[(k,v)]

theorem stpTo_succ (k v:Int) (l:PL) (i:Nat) (h:i<l.length):stpTo k v l (i+1)=stp k v (stpTo k v l i) (kOf l i,vOf l i):=by
 have e:(kOf l i,vOf l i)=l[i]:=by simp[kOf,vOf,List.getD,h]
 rw[stpTo,List.take_succ_eq_append_getElem h,List.foldl_append,e];rfl
theorem stp_length (k v:Int) (s:PL × Bool) (p:Int × Int):(stp k v s p).1.length<=s.1.length+2:=by
 unfold stp
 split<;>split<;>simp
theorem stpTo_length (k v:Int) (l:PL) (i:Nat):(stpTo k v l i).1.length<=2*i:=by
 have h:∀(l:PL) (s:PL × Bool),(l.foldl (stp k v) s).1.length<=s.1.length+2*l.length:=by
  intro l
  induction l with
  |nil=>intro s;simp
  |cons p l ih=>
   intro s
   have h1:=ih (stp k v s p)
   have h2:=stp_length k v s p
   rw[List.foldl_cons]
   simp only[List.length_cons]
   omega
 have:=h (l.take i) ([],false)
 have hl:(l.take i).length<=i:=List.length_take_le _ _
 unfold stpTo
 simp only[List.length_nil] at this
 omega

theorem stp_true (k v:Int) (l:PL) (acc:PL):l.foldl (stp k v) (acc,true)=(acc++delF l k,true):=by
 induction l generalizing acc with
 |nil=>simp[delF]
 |cons p l ih=>
  rw[List.foldl_cons]
  by_cases h:p.1=k
  ·rw[show stp k v (acc,true) p=(acc,true) by simp[stp,h],ih,delF,delF,List.filter_cons_of_neg (by simp[h])]
  ·rw[show stp k v (acc,true) p=(acc++[p],true) by simp[stp,h],ih,delF,delF,List.filter_cons_of_pos (by simp[h])]
   simp
theorem stp_put {l:PL} (h:Asc l) (k v:Int) (acc:PL):stpEnd k v (l.foldl (stp k v) (acc,false))=acc++putF l k v:=by
 induction l generalizing acc with
 |nil=>simp[stpEnd,putF]
 |cons p l ih=>
  obtain⟨h1,h2⟩:=h.cons
  rw[List.foldl_cons]
  by_cases hlt:p.1<k
  ·rw[show stp k v (acc,false) p=(acc++[p],false) by simp[stp,show ¬k<=p.1 by omega,show ¬p.1=k by omega],ih h2]
   have e:putF (p::l) k v=p::putF l k v:=by simp[putF,hlt,show ¬k<p.1 by omega]
   rw[e];simp
  ·by_cases he:p.1=k
   ·have hg:∀q∈l,k<q.1:=fun q hq=>by have:=h1 q hq;omega
    obtain⟨f1,f2,f3⟩:=filter_gt hg
    rw[show stp k v (acc,false) p=(acc++[(k,v)],true) by simp[stp,he],stp_true,delF,f3]
    have e:putF (p::l) k v=(k,v)::l:=by simp[putF,hlt,show ¬k<p.1 by omega,f1,f2]
    rw[e];simp[stpEnd]
   ·have hg:∀q∈l,k<q.1:=fun q hq=>by have:=h1 q hq;omega
    obtain⟨f1,f2,f3⟩:=filter_gt hg
    rw[show stp k v (acc,false) p=(acc++[(k,v)]++[p],true) by simp[stp,show k<=p.1 by omega,he],stp_true,delF,f3]
    have e:putF (p::l) k v=(k,v)::p::l:=by simp[putF,hlt,show k<p.1 by omega,f1,f2]
    rw[e];simp[stpEnd]
theorem stpTo_full {l:PL} (h:Asc l) (k v:Int):stpEnd k v (stpTo k v l l.length)=putF l k v:=by
 have:=stp_put h k v []
 simpa[stpTo] using this

theorem delF_succ (l:PL) (k:Int) (i:Nat) (h:i<l.length):delF (l.take (i+1)) k=if kOf l i=k then delF (l.take i) k else delF (l.take i) k++[(kOf l i,vOf l i)]:=by
 have e:(kOf l i,vOf l i)=l[i]:=by simp[kOf,vOf,List.getD,h]
 rw[List.take_succ_eq_append_getElem h,delF,List.filter_append, ← e]
 by_cases hk:kOf l i=k
 ·simp[hk,delF]
 ·simp[hk,delF]
end
end Go.Proofs.YtcmofojechfccaaGreat
