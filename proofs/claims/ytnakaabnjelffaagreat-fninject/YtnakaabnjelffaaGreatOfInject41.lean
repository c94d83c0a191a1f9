/-
  The contract of the program's give, at every depth.
  The program's drained: its function, and a leaf.
  The program's kidByKid, for drained's function.
-/
import Derived.Test.YtnakaabnjelffaaGreatOfInject37
import Derived.Test.YtnakaabnjelffaaGreatOfInject40
import Derived.Test.YtnakaabnjelffaaGreatOfInject29
import Derived.Test.YtnakaabnjelffaaGreatOfInject33
namespace Go.Proofs.YtnakaabnjelffaaGreat
set_option maxRecDepth 100000
set_option maxHeartbeats 8000000
section
open Go.RowKit

theorem Sy (d:Nat) (hd:0<d) (H:Oy d) (F:Nat->Prop) (y:TV) (T:Tr) (vm:Value) (ms:ML) (lo hi:Int) (w:World) (ht:Aq (d+1) w F y T) (hm:Row w vm ms.length (Al ms)) (hT:AG (d+1) T lo hi=d+1) (hms:ES lo hi ms) (hl:T.leaf=false) (hn:wt (d+1) T+ms.length<=100000) :
  Calls Tryz.prog 25 #[y.val,vm] w fun e w' =>∃v1 v2,e= .returned (.agg #[v1,v2])/\Ad (d+1) w' (fun b=>F b∨w.heap.size<=b) v1 (Ae (d+1) T ms).1/\Aj w' (fun b=>F b∨w.heap.size<=b) v2 (Ae (d+1) T ms).2.length (Ab (Ae (d+1) T ms).2)/\Below w.heap.size w w' :=by
 obtain⟨r1,r2,r3,r4,s1,s2,s3,s4,hy⟩:=ht.treeAt.shape
 obtain⟨a5,q5,hvm,_⟩:=hm.len
 have GF:Hid (∀w1,Below w.heap.size w w1->Calls Tryz.prog 54 #[y.val,vm] w1 _):=fun w1 hb=>Pe d hd H (fun g=>F g/\g<w.heap.size) y T vm ms lo hi w1 (ht.lt.below hb) (hm.below hb) hT hms hl hn
 clear ht hm;rw[hy,hl] at GF ⊢
 subst hvm;change Hid (∀w1,Below w.heap.size w w1->Calls Tryz.prog 54 #[.agg #[.bool false, .slice r1 T.pairs.length s1, .slice r2 T.cuts.length s2, .slice r3 T.kids.length s3, .slice r4 T.buf.length s4], .slice a5 ms.length q5] w1 _) at GF
 show Calls Tryz.prog 25 #[.agg #[.bool false, .slice r1 T.pairs.length s1, .slice r2 T.cuts.length s2, .slice r3 T.kids.length s3, .slice r4 T.buf.length s4], .slice a5 ms.length q5] w _
 clear hy hT hms hl hn;generalize Ae (d+1) T ms=GM at *
 generalize T.cuts.length=z2 at *
 generalize T.kids.length=z3 at *
 generalize T.buf.length=z4 at *
 generalize T.pairs.length=z1 at *
 generalize ms.length=nm at *
 have hs:∀A B e f,((w.alloc (.cells A e)).alloc (.cells B f)).heap.size=w.heap.size+2:=fun A B e f=>by simp
 go_enter Tryz.func25,Tryz.ntmps25
 go_wp2_with fail;refine Calls.mono (GF.out _ (al2 _ _ _)) ?_
 rintro e w2 ⟨v1,v2,rfl,t1,t2,b2⟩
 rw[hs] at t1 t2
 obtain⟨c1,y1,hv1,_⟩:=t1.els.choose_spec.2.row.len
 obtain⟨c2,y2,hv2,_⟩:=t2.row.len
 subst hv1 hv2;have X2:Ai w2 (w.heap.size+1) #[.slice none 0 0, .slice none 0 0]:=(b2.block (w.heap.size+1) (by simp)).trans (by have:=heap_alloc_new (w.alloc (.cells #[.bool false, .slice r1 z1 s1, .slice r2 z2 s2, .slice r3 z3 s3, .slice r4 z4 s4] 29)) (.cells #[.slice none 0 0, .slice none 0 0] 52);simpa using this)
 have BW:Hid (Below w.heap.size w w2):=Below.and (al2 _ _ _) b2
 obtain⟨g0,g1⟩:=X2.two
 obtain⟨g2,g3⟩:=X2.free
 have FIN:Hid (Ad (d+1) (setR w2 (w.heap.size+1) (.slice c1 GM.1.length y1) (.slice c2 GM.2.length y2)) (fun b=>F b∨w.heap.size<=b) (.slice c1 GM.1.length y1) GM.1/\Aj (setR w2 (w.heap.size+1) (.slice c1 GM.1.length y1) (.slice c2 GM.2.length y2)) (fun b=>F b∨w.heap.size<=b) (.slice c2 GM.2.length y2) GM.2.length (Ab GM.2)/\Below w.heap.size w (setR w2 (w.heap.size+1) (.slice c1 GM.1.length y1) (.slice c2 GM.2.length y2))/\Ai (setR w2 (w.heap.size+1) (.slice c1 GM.1.length y1) (.slice c2 GM.2.length y2)) (w.heap.size+1) #[.slice c1 GM.1.length y1, .slice c2 GM.2.length y2]):=by
  have D:∀h,(F h/\h<w.heap.size)∨w.heap.size+2<=h->¬h=w.heap.size+1:=fun h hh e=>by rcases hh with⟨_,hh⟩|hh<;>omega
  have M1:∀h,(F h/\h<w.heap.size)∨w.heap.size+2<=h->F h∨w.heap.size<=h:=fun h hh=>hh.imp And.left (fun k=>by omega)
  exact⟨(t1.chg (Av w2 (w.heap.size+1) _ _) (fun h k=>D h k)).mono M1,(t2.chg (Av w2 (w.heap.size+1) _ _) (fun h k=>D h k)).mono M1,(BW.out.setCell (p:=⟨w.heap.size+1,0,none⟩) (Nat.le_succ _) _).setCell (p:=⟨w.heap.size+1,1,none⟩) (Nat.le_succ _) _,X2.set2 _ _⟩
 clear t1 t2 b2 X2 GF;go_wp2;have ZZ:=FIN.out.2.2.2.two
 exact bodyPost_ret (v:= .agg #[.slice c1 GM.1.length y1, .slice c2 GM.2.length y2]) (by simp[results,Tryz.results25,go_sem,ZZ.1,ZZ.2]) rfl ⟨_,_,rfl,FIN.out.1,FIN.out.2.1,FIN.out.2.2.1⟩

theorem Ku:∀d,Oy d
 |0=>fun _ _ _ _ _ _ _ _ ht _ _ _ _ _=>ht.elim
 |d+1=>fun F x T vm ms lo hi w ht hm hT hms h0 hn=>by
  cases hl:T.leaf
  ·by_cases hd:0<d
   ·exact Sy d hd (Ku d) F x T vm ms lo hi w ht hm hT hms hl hn
   ·exfalso
    obtain rfl:d=0:=by omega
    obtain⟨hfo,hseg⟩:=Rt.kids hT hl
    obtain⟨o1,o2,o3,o4,o5,o6⟩:=AW hfo
    obtain⟨-, -, -, -,xs,hx,_,hk⟩:=ht.parts
    exact hk 0 (by have:=o2.1;omega)
  ·have h1:AG (d+1) T lo hi≠0:=by omega
   have hlo:=Ce h1 hl
   rw[Cf hl,if_pos hlo] at hT
   obtain rfl:d=0:=by omega
   obtain⟨_,h4,_⟩:=Dz hlo
   rw[Ae,if_pos hl]
   exact Pa F x T vm ms w ht hm hl (by omega)
end
section
open Go.RowKit

def DrI (d:Nat):Prop:=∀(F:Nat->Prop) (x:TV) (T:Tr) (lo hi:Int) (w:World),Aq d w F x T->AG d T lo hi=d->wt d T<=100000→
 Calls Tryz.prog 33 #[x.val] w fun e w' =>∃v1 v2,e= .returned (.agg #[v1,v2])/\Ad d w' (fun b=>F b∨w.heap.size<=b) v1 (An d T).1/\Aj w' (fun b=>F b∨w.heap.size<=b) v2 (An d T).2.length (Ab (An d T).2)/\Below w.heap.size w w'

theorem Qa (d:Nat) (H:DrI d) (F:Nat->Prop) (y:TV) (T:Tr) (i:Nat) (lo hi:Int) (w:World) (ht:Aq d w F y T) (hT:AG d T lo hi=d) (hn:wt d T<=100000) :
  Calls Tryz.prog 70 #[.int .i64 (i:Nat),y.val] w fun e w' =>∃v1 v2,e= .returned (.agg #[v1,v2])/\Ad d w' (fun b=>F b∨w.heap.size<=b) v1 (An d T).1/\Aj w' (fun b=>F b∨w.heap.size<=b) v2 (An d T).2.length (Ab (An d T).2)/\Below w.heap.size w w' :=by
 obtain⟨r1,r2,r3,r4,s1,s2,s3,s4,hy⟩:=ht.treeAt.shape
 have GF:Hid (∀w1,Below w.heap.size w w1->Calls Tryz.prog 33 #[y.val] w1 fun e w' =>∃v1 v2,e= .returned (.agg #[v1,v2])/\Ad d w' (fun b=>(F b/\b<w.heap.size)∨w1.heap.size<=b) v1 (An d T).1/\Aj w' (fun b=>(F b/\b<w.heap.size)∨w1.heap.size<=b) v2 (An d T).2.length (Ab (An d T).2)/\Below w1.heap.size w1 w'):=fun w1 hb=>H (fun g=>F g/\g<w.heap.size) y T lo hi w1 (ht.lt.below hb) hT hn
 clear ht;rw[hy] at GF ⊢
 change Hid (∀w1,Below w.heap.size w w1->Calls Tryz.prog 33 #[.agg #[.bool T.leaf, .slice r1 T.pairs.length s1, .slice r2 T.cuts.length s2, .slice r3 T.kids.length s3, .slice r4 T.buf.length s4]] w1 fun e w' =>∃v1 v2,e= .returned (.agg #[v1,v2])/\Ad d w' (fun b=>(F b/\b<w.heap.size)∨w1.heap.size<=b) v1 (An d T).1/\Aj w' (fun b=>(F b/\b<w.heap.size)∨w1.heap.size<=b) v2 (An d T).2.length (Ab (An d T).2)/\Below w1.heap.size w1 w') at GF
 show Calls Tryz.prog 70 #[.int .i64 (i:Nat), .agg #[.bool T.leaf, .slice r1 T.pairs.length s1, .slice r2 T.cuts.length s2, .slice r3 T.kids.length s3, .slice r4 T.buf.length s4]] w _
 clear hy hT hn;generalize An d T=GM at *
 generalize T.leaf=lf at *
 generalize T.cuts.length=z2 at *
 generalize T.kids.length=z3 at *
 generalize T.buf.length=z4 at *
 generalize T.pairs.length=z1 at *
 have hs:∀A B e f,((w.alloc (.cells A e)).alloc (.cells B f)).heap.size=w.heap.size+2:=fun A B e f=>by simp
 go_enter Tryz.func70,Tryz.ntmps70
 go_wp2_with fail;refine Calls.mono (GF.out _ (al2 _ _ _)) ?_
 rintro e w2 ⟨v1,v2,rfl,t1,t2,b2⟩
 rw[hs] at t1 t2
 obtain⟨c1,y1,hv1,_⟩:=t1.els.choose_spec.2.row.len
 obtain⟨c2,y2,hv2,_⟩:=t2.row.len
 subst hv1 hv2;have X2:Ai w2 (w.heap.size+1) #[.slice none 0 0, .slice none 0 0]:=(b2.block (w.heap.size+1) (by simp)).trans (by have:=heap_alloc_new (w.alloc (.cells #[.bool lf, .slice r1 z1 s1, .slice r2 z2 s2, .slice r3 z3 s3, .slice r4 z4 s4] 29)) (.cells #[.slice none 0 0, .slice none 0 0] 52);simpa using this)
 have BW:Hid (Below w.heap.size w w2):=Below.and (al2 _ _ _) b2
 obtain⟨g0,g1⟩:=X2.two
 obtain⟨g2,g3⟩:=X2.free
 have FIN:Hid (Ad d (setR w2 (w.heap.size+1) (.slice c1 GM.1.length y1) (.slice c2 GM.2.length y2)) (fun b=>F b∨w.heap.size<=b) (.slice c1 GM.1.length y1) GM.1/\Aj (setR w2 (w.heap.size+1) (.slice c1 GM.1.length y1) (.slice c2 GM.2.length y2)) (fun b=>F b∨w.heap.size<=b) (.slice c2 GM.2.length y2) GM.2.length (Ab GM.2)/\Below w.heap.size w (setR w2 (w.heap.size+1) (.slice c1 GM.1.length y1) (.slice c2 GM.2.length y2))/\Ai (setR w2 (w.heap.size+1) (.slice c1 GM.1.length y1) (.slice c2 GM.2.length y2)) (w.heap.size+1) #[.slice c1 GM.1.length y1, .slice c2 GM.2.length y2]):=by
  have D:∀h,(F h/\h<w.heap.size)∨w.heap.size+2<=h->¬h=w.heap.size+1:=fun h hh e=>by rcases hh with⟨_,hh⟩|hh<;>omega
  have M1:∀h,(F h/\h<w.heap.size)∨w.heap.size+2<=h->F h∨w.heap.size<=h:=fun h hh=>hh.imp And.left (fun k=>by omega)
  exact⟨(t1.chg (Av w2 (w.heap.size+1) _ _) (fun h k=>D h k)).mono M1,(t2.chg (Av w2 (w.heap.size+1) _ _) (fun h k=>D h k)).mono M1,(BW.out.setCell (p:=⟨w.heap.size+1,0,none⟩) (Nat.le_succ _) _).setCell (p:=⟨w.heap.size+1,1,none⟩) (Nat.le_succ _) _,X2.set2 _ _⟩
 clear t1 t2 b2 X2 GF;go_wp2;have ZZ:=FIN.out.2.2.2.two
 exact bodyPost_ret (v:= .agg #[.slice c1 GM.1.length y1, .slice c2 GM.2.length y2]) (by simp[results,Tryz.results70,go_sem,ZZ.1,ZZ.2]) rfl ⟨_,_,rfl,FIN.out.1,FIN.out.2.1,FIN.out.2.2.1⟩

theorem Ln (d:Nat) (F:Nat->Prop) (y:TV) (T:Tr) (w:World) (ht:Aq d w F y T) (hl:T.leaf=true) :
  Calls Tryz.prog 33 #[y.val] w fun e w' =>∃v1 v2,e= .returned (.agg #[v1,v2])/\Ad d w' (fun b=>F b∨w.heap.size<=b) v1 (([T],[]):TM).1/\Aj w' (fun b=>F b∨w.heap.size<=b) v2 (([T],[]):TM).2.length (Ab (([T],[]):TM).2)/\Below w.heap.size w w' :=by
 obtain⟨r1,r2,r3,r4,s1,s2,s3,s4,hy⟩:=ht.treeAt.shape
 have GF:Hid (∀w1,Below w.heap.size w w1->Calls Tryz.prog 66 #[y.val] w1 fun e w' =>∃v1 v2,e= .returned (.agg #[v1,v2])/\Ad d w' (fun b=>(F b/\b<w.heap.size)∨w1.heap.size<=b) v1 (([T],[]):TM).1/\Aj w' (fun b=>(F b/\b<w.heap.size)∨w1.heap.size<=b) v2 (([T],[]):TM).2.length (Ab (([T],[]):TM).2)/\Below w1.heap.size w1 w'):=fun w1 hb=>(GR d (fun g=>F g/\g<w.heap.size) y T w1 (ht.lt.below hb)).mono (by
  rintro e w' ⟨vt,rfl,t,b⟩
  exact⟨vt,_,rfl,t,Aj.nil _ _,b⟩)
 clear ht;rw[hy,hl] at GF ⊢
 change Hid (∀w1,Below w.heap.size w w1->Calls Tryz.prog 66 #[.agg #[.bool true, .slice r1 T.pairs.length s1, .slice r2 T.cuts.length s2, .slice r3 T.kids.length s3, .slice r4 T.buf.length s4]] w1 fun e w' =>∃v1 v2,e= .returned (.agg #[v1,v2])/\Ad d w' (fun b=>(F b/\b<w.heap.size)∨w1.heap.size<=b) v1 (([T],[]):TM).1/\Aj w' (fun b=>(F b/\b<w.heap.size)∨w1.heap.size<=b) v2 (([T],[]):TM).2.length (Ab (([T],[]):TM).2)/\Below w1.heap.size w1 w') at GF
 show Calls Tryz.prog 33 #[.agg #[.bool true, .slice r1 T.pairs.length s1, .slice r2 T.cuts.length s2, .slice r3 T.kids.length s3, .slice r4 T.buf.length s4]] w _
 clear hy hl;generalize (([T],[]):TM)=GM at *
 generalize T.cuts.length=z2 at *
 generalize T.kids.length=z3 at *
 generalize T.buf.length=z4 at *
 generalize T.pairs.length=z1 at *
 have hs:∀A B e f,((w.alloc (.cells A e)).alloc (.cells B f)).heap.size=w.heap.size+2:=fun A B e f=>by simp
 go_enter Tryz.func33,Tryz.ntmps33
 go_wp2_with fail;refine Calls.mono (GF.out _ (al2 _ _ _)) ?_
 rintro e w2 ⟨v1,v2,rfl,t1,t2,b2⟩
 rw[hs] at t1 t2
 obtain⟨c1,y1,hv1,_⟩:=t1.els.choose_spec.2.row.len
 obtain⟨c2,y2,hv2,_⟩:=t2.row.len
 subst hv1 hv2;have X2:Ai w2 (w.heap.size+1) #[.slice none 0 0, .slice none 0 0]:=(b2.block (w.heap.size+1) (by simp)).trans (by have:=heap_alloc_new (w.alloc (.cells #[.bool true, .slice r1 z1 s1, .slice r2 z2 s2, .slice r3 z3 s3, .slice r4 z4 s4] 29)) (.cells #[.slice none 0 0, .slice none 0 0] 52);simpa using this)
 have BW:Hid (Below w.heap.size w w2):=Below.and (al2 _ _ _) b2
 obtain⟨g0,g1⟩:=X2.two
 obtain⟨g2,g3⟩:=X2.free
 have FIN:Hid (Ad d (setR w2 (w.heap.size+1) (.slice c1 GM.1.length y1) (.slice c2 GM.2.length y2)) (fun b=>F b∨w.heap.size<=b) (.slice c1 GM.1.length y1) GM.1/\Aj (setR w2 (w.heap.size+1) (.slice c1 GM.1.length y1) (.slice c2 GM.2.length y2)) (fun b=>F b∨w.heap.size<=b) (.slice c2 GM.2.length y2) GM.2.length (Ab GM.2)/\Below w.heap.size w (setR w2 (w.heap.size+1) (.slice c1 GM.1.length y1) (.slice c2 GM.2.length y2))/\Ai (setR w2 (w.heap.size+1) (.slice c1 GM.1.length y1) (.slice c2 GM.2.length y2)) (w.heap.size+1) #[.slice c1 GM.1.length y1, .slice c2 GM.2.length y2]):=by
  have D:∀h,(F h/\h<w.heap.size)∨w.heap.size+2<=h->¬h=w.heap.size+1:=fun h hh e=>by rcases hh with⟨_,hh⟩|hh<;>omega
  have M1:∀h,(F h/\h<w.heap.size)∨w.heap.size+2<=h->F h∨w.heap.size<=h:=fun h hh=>hh.imp And.left (fun k=>by omega)
  exact⟨(t1.chg (Av w2 (w.heap.size+1) _ _) (fun h k=>D h k)).mono M1,(t2.chg (Av w2 (w.heap.size+1) _ _) (fun h k=>D h k)).mono M1,(BW.out.setCell (p:=⟨w.heap.size+1,0,none⟩) (Nat.le_succ _) _).setCell (p:=⟨w.heap.size+1,1,none⟩) (Nat.le_succ _) _,X2.set2 _ _⟩
 clear t1 t2 b2 X2 GF;go_wp2;have ZZ:=FIN.out.2.2.2.two
 exact bodyPost_ret (v:= .agg #[.slice c1 GM.1.length y1, .slice c2 GM.2.length y2]) (by simp[results,Tryz.results33,go_sem,ZZ.1,ZZ.2]) rfl ⟨_,_,rfl,FIN.out.1,FIN.out.2.1,FIN.out.2.2.1⟩
end
section
open Go.RowKit

theorem Nu (d:Nat) (F:Nat->Prop) (vt vc:Value) (m:TM) (f:Nat->TM) (xs:List TV) (w:World) (hx:Els d w F xs m.1) (hr:Aj w F vt xs.length (Ap xs)) (hc:Aj w F vc m.2.length (Ab m.2))
  (hl:m.2.length+1=m.1.length) (h2:2<=m.1.length) (hf:∀i,i<m.1.length->(f i).2.length+1=(f i).1.length) (hb:∀k,k<=m.1.length->(kbk f m k).1.length<=400000) (hbf:∀k,k<m.1.length->(f k).1.length<=400000)
  (D:∀(i:Nat) (u:World),i<m.1.length->Below w.heap.size w u->Calls Tryz.prog 70 #[.int .i64 (i:Nat),(Ay xs i).val] u fun e u' =>∃v1 v2,e= .returned (.agg #[v1,v2])/\Ad d u' (fun g=>(F g/\g<w.heap.size)∨u.heap.size<=g) v1 (f i).1/\Aj u' (fun g=>(F g/\g<w.heap.size)∨u.heap.size<=g) v2 (f i).2.length (Ab (f i).2)/\Below u.heap.size u u') :
  Calls Tryz.prog 69 #[.agg #[vt,vc], .func (.func 70) #[] #[]] w fun e w' =>∃v1 v2,e= .returned (.agg #[v1,v2])/\Ad d w' (fun g=>F g∨w.heap.size<=g) v1 (BE f m).1/\Aj w' (fun g=>F g∨w.heap.size<=g) v2 (BE f m).2.length (Ab (BE f m).2)/\Below w.heap.size w w' :=by
 have hxl:=hx.1
 obtain⟨_,b1,o1,q1,hv1,hcap1,hmax1,ha1,c0,c1,c2,c3,c4⟩:=hr.row.trees
 obtain⟨_,b2,o2,q2,hv2,hcap2,hmax2,ha2,_⟩:=hc.row.ints
 have ha1' :=ha1 (by omega)
 have ha2' :=ha2 (by omega)
 subst ha1' ha2';rw[hxl] at hv1 hcap1 c0 c1 c2 c3 c4
 have ht0:Ad d w F vt m.1:=hx.trees hr
 subst hv1 hv2;have CC:Hid (∀(i:Nat) (u:World),i<m.1.length->Below w.heap.size w u->u.cell? ⟨b1,o1+i*5,none⟩=some (.bool (Ay xs i).lf)/\u.cell? ⟨b1,o1+i*5+1,none⟩=some (Ay xs i).p/\u.cell? ⟨b1,o1+i*5+2,none⟩=some (Ay xs i).c/\u.cell? ⟨b1,o1+i*5+3,none⟩=some (Ay xs i).k/\u.cell? ⟨b1,o1+i*5+4,none⟩=some (Ay xs i).b):=fun i u hi hu=>
  ⟨Ac hu (Aa (c0 i hi)) (c0 i hi),Ac hu (Aa (c1 i hi)) (c1 i hi),Ac hu (Aa (c2 i hi)) (c2 i hi),Ac hu (Aa (c3 i hi)) (c3 i hi),Ac hu (Aa (c4 i hi)) (c4 i hi)⟩
 have SH:Hid (∀i,i<m.1.length->∃(r1 r2 r3 r4:Option Addr) (z1 z2 z3 z4 s1 s2 s3 s4:Nat) (z0:Bool),Ay xs i=⟨z0, .slice r1 z1 s1, .slice r2 z2 s2, .slice r3 z3 s3, .slice r4 z4 s4⟩):=fun i hi=>by
  obtain⟨r1,r2,r3,r4,s1,s2,s3,s4,e⟩:=(hx.2 i (by omega)).treeAt.shape
  exact⟨r1,r2,r3,r4,_,_,_,_,s1,s2,s3,s4,_,e⟩
 have DD:Hid _:=D
 have KP:Hid (∀k,k<m.1.length->Bb (kbk f m k) (AA f k).length (f k)=kbk f m (k+1)):=fun k hk=>TJ hl hk fun i hi=>hf i (by omega)
 have KL:Hid (∀k,k<=m.1.length->(kbk f m k).2.length+1=(kbk f m k).1.length):=fun k hk=>Uh hl k hk fun i hi=>hf i (by omega)
 have KA:Hid (kbk f m m.1.length=BE f m):=TI hl
 have KZ:Hid (kbk f m 0=m):=ME f m
 have HB:Hid _:=hb
 have HBF:Hid _:=hbf
 have HF:Hid _:=hf
 have KT:Hid (∀k,k<=m.1.length->2<=(kbk f m k).1.length/\(k<m.1.length->(AA f k).length<(kbk f m k).1.length)/\(AA f k).length<=400000):=fun k hk=>by
  have h3:k<=(AA f k).length:=by
   clear DD D HB hb KA KP KL;induction k with
   |zero=>exact Nat.zero_le _
   |succ k ih=>
    have:=ih (by omega)
    have:=hf k (by omega)
    rw[AA,List.length_append]
    omega
  have h4:(kbk f m k).1.length=(AA f k).length+(m.1.length-k):=by simp[kbk]
  have:=hb k hk
  omega
 have SS:Hid (∀k,(AA f (k+1)).length=(AA f k).length+(f k).1.length):=fun k=>by show _=_;rw[AA,List.length_append]
 have J0:Hid (∃(e1 e2:Option Addr) (p1 p2:Nat),Ai (((w.alloc (.cells #[.slice (some ⟨b1,o1,none⟩) m.1.length q1, .slice (some ⟨b2,o2,none⟩) m.2.length q2] 52)).alloc (.cells #[.slice none 0 0, .slice none 0 0] 52)).alloc (.cells #[.slice (some ⟨b1,o1,none⟩) m.1.length q1, .slice (some ⟨b2,o2,none⟩) m.2.length q2] 52)) (w.heap.size+2) #[.slice e1 (kbk f m 0).1.length p1, .slice e2 (kbk f m 0).2.length p2]/\Ad d (((w.alloc (.cells #[.slice (some ⟨b1,o1,none⟩) m.1.length q1, .slice (some ⟨b2,o2,none⟩) m.2.length q2] 52)).alloc (.cells #[.slice none 0 0, .slice none 0 0] 52)).alloc (.cells #[.slice (some ⟨b1,o1,none⟩) m.1.length q1, .slice (some ⟨b2,o2,none⟩) m.2.length q2] 52)) (fun g=>(F g/\g<w.heap.size)∨w.heap.size+3<=g) (.slice e1 (kbk f m 0).1.length p1) (kbk f m 0).1/\Aj (((w.alloc (.cells #[.slice (some ⟨b1,o1,none⟩) m.1.length q1, .slice (some ⟨b2,o2,none⟩) m.2.length q2] 52)).alloc (.cells #[.slice none 0 0, .slice none 0 0] 52)).alloc (.cells #[.slice (some ⟨b1,o1,none⟩) m.1.length q1, .slice (some ⟨b2,o2,none⟩) m.2.length q2] 52)) (fun g=>(F g/\g<w.heap.size)∨w.heap.size+3<=g) (.slice e2 (kbk f m 0).2.length p2) (kbk f m 0).2.length (Ab (kbk f m 0).2)/\Ai (((w.alloc (.cells #[.slice (some ⟨b1,o1,none⟩) m.1.length q1, .slice (some ⟨b2,o2,none⟩) m.2.length q2] 52)).alloc (.cells #[.slice none 0 0, .slice none 0 0] 52)).alloc (.cells #[.slice (some ⟨b1,o1,none⟩) m.1.length q1, .slice (some ⟨b2,o2,none⟩) m.2.length q2] 52)) w.heap.size #[.slice (some ⟨b1,o1,none⟩) m.1.length q1, .slice (some ⟨b2,o2,none⟩) m.2.length q2]/\Ai (((w.alloc (.cells #[.slice (some ⟨b1,o1,none⟩) m.1.length q1, .slice (some ⟨b2,o2,none⟩) m.2.length q2] 52)).alloc (.cells #[.slice none 0 0, .slice none 0 0] 52)).alloc (.cells #[.slice (some ⟨b1,o1,none⟩) m.1.length q1, .slice (some ⟨b2,o2,none⟩) m.2.length q2] 52)) (w.heap.size+1) #[.slice none 0 0, .slice none 0 0]/\Below w.heap.size w (((w.alloc (.cells #[.slice (some ⟨b1,o1,none⟩) m.1.length q1, .slice (some ⟨b2,o2,none⟩) m.2.length q2] 52)).alloc (.cells #[.slice none 0 0, .slice none 0 0] 52)).alloc (.cells #[.slice (some ⟨b1,o1,none⟩) m.1.length q1, .slice (some ⟨b2,o2,none⟩) m.2.length q2] 52))):=by
  refine⟨some ⟨b1,o1,none⟩,some ⟨b2,o2,none⟩,q1,q2, ?_⟩
  rw[KZ.out]
  refine⟨?_,(ht0.lt.below (al3 _ _ _ _)).mono (fun g hg=> .inl hg),((hc.lt (Ch _).2).below (al3 _ _ _ _)).mono (fun g hg=> .inl hg),((Ai.start w _).step (al1 _ _)).step (al1 _ _), ?_,al3 _ _ _ _⟩
  ·have:=Ai.start ((w.alloc (.cells #[.slice (some ⟨b1,o1,none⟩) m.1.length q1, .slice (some ⟨b2,o2,none⟩) m.2.length q2] 52)).alloc (.cells #[.slice none 0 0, .slice none 0 0] 52)) #[.slice (some ⟨b1,o1,none⟩) m.1.length q1, .slice (some ⟨b2,o2,none⟩) m.2.length q2]
   rw[World.size_alloc,World.size_alloc] at this
   exact this
  ·have:=(Ai.start (w.alloc (.cells #[.slice (some ⟨b1,o1,none⟩) m.1.length q1, .slice (some ⟨b2,o2,none⟩) m.2.length q2] 52)) #[.slice none 0 0, .slice none 0 0]).step (al1 _ (.cells #[.slice (some ⟨b1,o1,none⟩) m.1.length q1, .slice (some ⟨b2,o2,none⟩) m.2.length q2] 52))
   rw[World.size_alloc] at this
   exact this
 clear hx hr hc ht0 c0 c1 c2 c3 c4 D hb hbf hf ha1 ha2;generalize hn1:m.1.length=n1 at *
 generalize hn2:m.2.length=n2 at *
 clear hn1 hn2;rw[←KA.out]
 unfold maxLen at hmax1 hmax2;go_enter Tryz.func69,Tryz.ntmps69
 go_wp2;go_loopw [6,14] (fun at_ ix wr=>∃(k:Nat) (e1 e2:Option Addr) (p1 p2:Nat),at_= .int .i64 ((AA f k).length:Nat)/\ix= .int .i64 k/\k<=n1/\Hid (Ai wr (w.heap.size+2) #[.slice e1 (kbk f m k).1.length p1, .slice e2 (kbk f m k).2.length p2]/\Ad d wr (fun g=>(F g/\g<w.heap.size)∨w.heap.size+3<=g) (.slice e1 (kbk f m k).1.length p1) (kbk f m k).1/\Aj wr (fun g=>(F g/\g<w.heap.size)∨w.heap.size+3<=g) (.slice e2 (kbk f m k).2.length p2) (kbk f m k).2.length (Ab (kbk f m k).2)/\Ai wr w.heap.size #[.slice (some ⟨b1,o1,none⟩) n1 q1, .slice (some ⟨b2,o2,none⟩) n2 q2]/\Ai wr (w.heap.size+1) #[.slice none 0 0, .slice none 0 0]/\Below w.heap.size w wr))
  (fun _ ix _=>n1-(intOf ix).toNat)
 case atStart=>obtain⟨e1,e2,p1,p2,h⟩:=J0.out;exact⟨0,e1,e2,p1,p2,rfl,rfl,Nat.zero_le _,h⟩
 case round=>
  obtain⟨k,e1,e2,p1,p2,rfl,rfl,hk,JJ⟩:=hrel
  clear J0;obtain⟨j1,j2,j3,j4,j5,j6⟩:=JJ.out
  by_cases hlt:k<n1
  ·obtain⟨d0,d1,d2,d3,d4⟩:=CC.out k wr hlt j6
   obtain⟨r1,r2,r3,r4,z1,z2,z3,z4,s1,s2,s3,s4,z0,hy⟩:=SH.out k hlt
   have D1:=DD.out k (wr.alloc (.cells #[.bool (Ay xs k).lf,(Ay xs k).p,(Ay xs k).c,(Ay xs k).k,(Ay xs k).b] 29)) hlt (Below.and j6 (al1 _ _))
   rw[hy] at d0 d1 d2 d3 d4 D1
   simp only at d0 d1 d2 d3 d4
   dsimp only at D1
   have D2:Hid _:=D1
   obtain⟨kt1,kt2,kt3⟩:=KT.out k hk
   have kt4:=kt2 hlt
   have ss:=SS.out k
   have hbf:=HBF.out k hlt
   have hff:=HF.out k hlt
   have kp:=KP.out k hlt
   have kl:=KL.out k hk
   have hbk:=HB.out k hk
   have hk0:(0:Int)<=(k:Int):=by omega
   have hkn:(k:Int)<(n1:Int):=by omega
   clear D1 hy j1 j2 j3 j4 j5 j6 kt2;go_wp2_with fail;refine Calls.mono D2.out ?_
   rintro e w1 ⟨v1,v2,rfl,t1,t2,pb⟩
   obtain⟨x1,y1,hv1,_⟩:=t1.els.choose_spec.2.row.len
   obtain⟨x2,y2,hv2,_⟩:=t2.row.len
   subst hv1 hv2;have B1:Below wr.heap.size wr (w1.alloc (.cells #[.slice x1 (f k).1.length y1, .slice x2 (f k).2.length y2] 52)):=Below.and (Below.and (al1 _ _) pb) (al1 _ _)
   have hs3:w.heap.size+3<=wr.heap.size:=by have:=JJ.out.1.lt;omega
   have hw1:wr.heap.size+1<=w1.heap.size:=by have:=pb.size;simpa using this
   have M1:∀g,(F g/\g<w.heap.size)∨(wr.alloc (.cells #[.bool z0, .slice r1 z1 s1, .slice r2 z2 s2, .slice r3 z3 s3, .slice r4 z4 s4] 29)).heap.size<=g->(F g/\g<w.heap.size)∨w.heap.size+3<=g:=fun g hg=>hg.imp id fun h=>by simp at h;omega
   obtain⟨j1,j2,j3,j4,j5,j6⟩:=JJ.out
   have IP:Hid _:=GN d (fun g=>(F g/\g<w.heap.size)∨w.heap.size+3<=g) (.slice e1 (kbk f m k).1.length p1) (.slice e2 (kbk f m k).2.length p2) (.slice x1 (f k).1.length y1) (.slice x2 (f k).2.length y2) (kbk f m k) (f k) (AA f k).length (w1.alloc (.cells #[.slice x1 (f k).1.length y1, .slice x2 (f k).2.length y2] 52)) (j2.below B1) (j3.below B1) ((t1.mono M1).below (al1 _ _)) ((t2.mono M1).below (al1 _ _)) kl kt1 kt4 (by omega) (by omega) (by omega)
   obtain⟨a0,a1'⟩:=(j1.step B1).two
   have JB:Hid (Below wr.heap.size wr (w1.alloc (.cells #[.slice x1 (f k).1.length y1, .slice x2 (f k).2.length y2] 52))):=B1
   have CBX:=Ai.start w1 #[.slice x1 (f k).1.length y1, .slice x2 (f k).2.length y2]
   have CX:Hid _:=CBX
   clear t1 t2 pb B1 M1 j1 j2 j3 j4 j5 j6 D2 d0 d1 d2 d3 d4 CBX;go_wp2_with fail;refine Calls.mono IP.out ?_
   rintro e w3 ⟨v3,v4,rfl,t3,t4,pb3⟩
   obtain⟨x3,y3,hv3,_⟩:=t3.els.choose_spec.2.row.len
   obtain⟨x4,y4,hv4,_⟩:=t4.row.len
   subst hv3 hv4;obtain⟨j1,j2,j3,j4,j5,j6⟩:=JJ.out
   have B3:=Below.and JB.out pb3
   have k1:=j1.step B3
   obtain⟨g0,g1⟩:=k1.two
   obtain⟨f0,f1⟩:=k1.free
   have cx:Ai w3 w1.heap.size #[.slice x1 (f k).1.length y1, .slice x2 (f k).2.length y2]:=Ai.step CX.out pb3
   obtain⟨h0,h1⟩:=(cx.setR (L:=w.heap.size+2) (.slice x3 (Bb (kbk f m k) (AA f k).length (f k)).1.length y3) (.slice x4 (Bb (kbk f m k) (AA f k).length (f k)).2.length y4) (by omega)).two
   have hsz:wr.heap.size<=(w1.alloc (.cells #[.slice x1 (f k).1.length y1, .slice x2 (f k).2.length y2] 52)).heap.size:=JB.out.size
   have NX:Hid (∃(e1 e2:Option Addr) (p1 p2:Nat),Ai (setR w3 (w.heap.size+2) (.slice x3 (Bb (kbk f m k) (AA f k).length (f k)).1.length y3) (.slice x4 (Bb (kbk f m k) (AA f k).length (f k)).2.length y4)) (w.heap.size+2) #[.slice e1 (kbk f m (k+1)).1.length p1, .slice e2 (kbk f m (k+1)).2.length p2]/\Ad d (setR w3 (w.heap.size+2) (.slice x3 (Bb (kbk f m k) (AA f k).length (f k)).1.length y3) (.slice x4 (Bb (kbk f m k) (AA f k).length (f k)).2.length y4)) (fun g=>(F g/\g<w.heap.size)∨w.heap.size+3<=g) (.slice e1 (kbk f m (k+1)).1.length p1) (kbk f m (k+1)).1/\Aj (setR w3 (w.heap.size+2) (.slice x3 (Bb (kbk f m k) (AA f k).length (f k)).1.length y3) (.slice x4 (Bb (kbk f m k) (AA f k).length (f k)).2.length y4)) (fun g=>(F g/\g<w.heap.size)∨w.heap.size+3<=g) (.slice e2 (kbk f m (k+1)).2.length p2) (kbk f m (k+1)).2.length (Ab (kbk f m (k+1)).2)/\Ai (setR w3 (w.heap.size+2) (.slice x3 (Bb (kbk f m k) (AA f k).length (f k)).1.length y3) (.slice x4 (Bb (kbk f m k) (AA f k).length (f k)).2.length y4)) w.heap.size #[.slice (some ⟨b1,o1,none⟩) n1 q1, .slice (some ⟨b2,o2,none⟩) n2 q2]/\Ai (setR w3 (w.heap.size+2) (.slice x3 (Bb (kbk f m k) (AA f k).length (f k)).1.length y3) (.slice x4 (Bb (kbk f m k) (AA f k).length (f k)).2.length y4)) (w.heap.size+1) #[.slice none 0 0, .slice none 0 0]/\Below w.heap.size w (setR w3 (w.heap.size+2) (.slice x3 (Bb (kbk f m k) (AA f k).length (f k)).1.length y3) (.slice x4 (Bb (kbk f m k) (AA f k).length (f k)).2.length y4))):=by
    rw[←kp]
    refine⟨x3,x4,y3,y4,k1.set2 _ _,(t3.chg (Av w3 (w.heap.size+2) _ _) (fun g hg e=> ?_)).mono (fun g hg=> ?_),(t4.chg (Av w3 (w.heap.size+2) _ _) (fun g hg e=> ?_)).mono (fun g hg=> ?_),(j4.step B3).setR _ _ (by omega),(j5.step B3).setR _ _ (by omega),((Below.and j6 B3).setCell (p:=⟨w.heap.size+2,0,none⟩) (Nat.le_add_right _ _) _).setCell (p:=⟨w.heap.size+2,1,none⟩) (Nat.le_add_right _ _) _⟩
    ·rcases hg with(⟨_,h⟩|h)|h<;>omega
    ·rcases hg with h|h
     ·exact h
     ·exact .inr (by omega)
    ·rcases hg with(⟨_,h⟩|h)|h<;>omega
    ·rcases hg with h|h
     ·exact h
     ·exact .inr (by omega)
   clear t3 t4 pb3 j1 j2 j3 j4 j5 j6 B3 k1 cx CX JB IP a0 a1' JJ hsz;have SN:Hid _:=ss
   clear ss;generalize hPM:Bb (kbk f m k) (AA f k).length (f k)=PMk at *
   clear hPM kp;go_wp2;go_roundw
   case rel=>obtain⟨e1',e2',p1',p2',hh⟩:=NX.out;exact⟨k+1,e1',e2',p1',p2',by rw[SN.out];go_num,by go_num,by omega,hh⟩
   case measure=>simp[intOf];omega
  ·have hkk:k=n1:=by omega
   have hkn:¬((k:Int)<(n1:Int)):=by omega
   rw[hkk] at JJ
   obtain⟨j1,j2,j3,j4,j5,j6⟩:=JJ.out
   obtain⟨g0,g1⟩:=j1.two
   obtain⟨h0,h1⟩:=j5.two
   obtain⟨f0,f1⟩:=j5.free
   have FIN:Hid (∀x y,Ad d (setR wr (w.heap.size+1) x y) (fun g=>F g∨w.heap.size<=g) (.slice e1 (kbk f m n1).1.length p1) (kbk f m n1).1/\Aj (setR wr (w.heap.size+1) x y) (fun g=>F g∨w.heap.size<=g) (.slice e2 (kbk f m n1).2.length p2) (kbk f m n1).2.length (Ab (kbk f m n1).2)/\Below w.heap.size w (setR wr (w.heap.size+1) x y)/\Ai (setR wr (w.heap.size+1) x y) (w.heap.size+1) #[x,y]):=fun x y=>by
    have M1:∀g,(F g/\g<w.heap.size)∨w.heap.size+3<=g->F g∨w.heap.size<=g:=fun g hg=>hg.imp And.left (fun h=>by omega)
    refine⟨(j2.chg (Av wr (w.heap.size+1) x y) (fun g hg e=> ?_)).mono M1,(j3.chg (Av wr (w.heap.size+1) x y) (fun g hg e=> ?_)).mono M1,(j6.setCell (p:=⟨w.heap.size+1,0,none⟩) (Nat.le_succ _) x).setCell (p:=⟨w.heap.size+1,1,none⟩) (Nat.le_succ _) y,j5.set2 x y⟩
    ·rcases hg with⟨_,h⟩|h<;>omega
    ·rcases hg with⟨_,h⟩|h<;>omega
   clear j1 j2 j3 j4 j5 j6 JJ hkk;go_wp2;obtain⟨q1',q2',q3',q4'⟩:=FIN.out (.slice e1 (kbk f m n1).1.length p1) (.slice e2 (kbk f m n1).2.length p2)
   have Z:=q4'.two
   exact bodyPost_ret (v:= .agg #[.slice e1 (kbk f m n1).1.length p1, .slice e2 (kbk f m n1).2.length p2]) (by simp[results,Tryz.results69,go_sem,Z.1,Z.2]) rfl ⟨_,_,rfl,q1',q2',q3'⟩
end
end Go.Proofs.YtnakaabnjelffaaGreat
