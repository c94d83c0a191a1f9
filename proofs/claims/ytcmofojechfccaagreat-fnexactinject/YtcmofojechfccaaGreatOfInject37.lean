/-
  The contract of the program's giveDown.
  A scope with several labels: what holds at a jump to each, and a measure that every pass from a label lowers.
  The rounds in which messages come down; plain mathematics. A scope with two labels.
  What the copier's own state is, and the sums it keeps.
  The work list of the program's copyOfTree: what waits, and what is there when all of it is done.
-/
import Derived.Test.YtcmofojechfccaaGreatOfInject36
import Derived.Scope
import Derived.WalkMore
import Derived.Test.YtcmofojechfccaaGreatOfInject23
import Derived.Test.YtcmofojechfccaaGreatOfInject25
namespace Go.Proofs.YtcmofojechfccaaGreat
set_option maxRecDepth 100000
set_option maxHeartbeats 8000000
section
open Go.RowKit

theorem wt_le_wtL {d:Nat} {t:Tr}:∀ {l:List Tr},t∈l->wt d t<=wtL d l
 |a::l,h=>by
  rw[wtL_cons]
  rcases List.mem_cons.1 h with rfl|h
  ·omega
  ·have:=wt_le_wtL (d:=d) h
   omega
theorem kbk_bound {d:Nat} {m:TM} (hok:MOk d m) (f:Nat->TM) (a:Nat->Nat) (hf:∀i,i<m.1.length->MOk d (f i)/\wtL d (f i).1<=wt d (m.1.getD i noTr)+a i) {N:Nat} (hN:wtL d m.1+((List.range m.1.length).map a).sum<=N):∀k,k<=m.1.length->(kbk f m k).1.length<=2*N:=by
 intro k hk
 obtain⟨s1,s2,s3,s4⟩:=side_ok f a hf k hk
 have h1:=wtL_length s1
 have h2:=wtL_length hok.2
 have h3:wtL d (m.1.take k)<=wtL d m.1:=by
  have:=wtL_append d (m.1.take k) (m.1.drop k)
  rw[List.take_append_drop] at this
  omega
 have h4:((List.range k).map a).sum<=((List.range m.1.length).map a).sum:=by
  have key:∀j,((List.range k).map a).sum<=((List.range (k+j)).map a).sum:=by
   intro j
   induction j with
   |zero=>exact Nat.le_refl _
   |succ j ih=>
    rw[←Nat.add_assoc,List.range_succ,List.map_append,List.sum_append]
    omega
  have:=key (m.1.length-k)
  rw[show k+(m.1.length-k)=m.1.length by omega] at this
  exact this
 have h5:(kbk f m k).1.length=(sideT f k).length+(m.1.length-k):=by simp[kbk]
 omega

theorem giveDown_any (d:Nat) (H:GiveI d) (F:Nat->Prop) (vt vc vb:Value) (m:TM) (b:ML) (f:Int->Int × Bool) (lo hi:Int) (w:World) (ht:TreesF d w F vt m.1) (hc:RowF w F vc m.2.length (flatI m.2)) (hb:Row w vb b.length (flatM b))
  (hs:Seg d f lo hi m.2 m.1) (hm:MsIn lo hi b) (h2:2<=m.1.length) (hok:MOk d m) (hn:wtL d m.1+b.length<=100000) :
  Calls Tryz.prog 119 #[.agg #[vt,vc],vb] w fun e w' =>∃v1 v2,e= .returned (.agg #[v1,v2])/\TreesF d w' (fun g=>F g∨w.heap.size<=g) v1 (downM (giveM d) m b).1/\RowF w' (fun g=>F g∨w.heap.size<=g) v2 (downM (giveM d) m b).2.length (flatI (downM (giveM d) m b).2)/\Below w.heap.size w w' :=by
 obtain⟨xs,ex,rx⟩:=ht.els
 obtain⟨a1,q1,hvt,_⟩:=rx.row.len
 obtain⟨a2,q2,hvc,_⟩:=hc.row.len
 obtain⟨a3,q3,hvb,_⟩:=hb.len
 subst hvt hvc hvb
 have hkm:=kidM_ok (giveM_ok d) hok b
 have hsum:=mineSum_range m.2 b m.1.length
 have hsl:=mineSum_le m.2 b m.1.length
 have W3:Hid (∀W,Below w.heap.size w W->BoxR W w.heap.size #[.slice a1 m.1.length q1, .slice a2 m.2.length q2]->W.cell? ⟨w.heap.size+1,0,none⟩=some (.slice a3 b.length q3)->w.heap.size+3<=W.heap.size→
   Calls Tryz.prog 121 #[.agg #[.slice a1 m.1.length q1, .slice a2 m.2.length q2], .func (.func 153) #[] #[.pointer (some ⟨w.heap.size,0,none⟩), .pointer (some ⟨w.heap.size+1,0,none⟩)]] W fun e w' =>∃v1 v2,e= .returned (.agg #[v1,v2])/\TreesF d w' (fun g=>(F g/\g<w.heap.size)∨W.heap.size<=g) v1 (downM (giveM d) m b).1/\RowF w' (fun g=>(F g/\g<w.heap.size)∨W.heap.size<=g) v2 (downM (giveM d) m b).2.length (flatI (downM (giveM d) m b).2)/\Below W.heap.size W w'):=fun W bW BX BC hsz=>by
  have rx' :=(rx.lt (by rw[←ex.1];exact(flatT_ne xs).2)).below bW
  rw[←ex.1] at rx'
  have:=kidByKidG_any d (fun g=>F g/\g<w.heap.size) (.slice a1 xs.length q1) (.slice a2 m.2.length q2) w.heap.size (w.heap.size+1) m (kidM (giveM d) m b) xs W ⟨ex.1,fun i hi=>(ex.2 i hi).lt.below bW⟩ rx' ((hc.lt (flatI_ne _).2).below bW) hs.len h2 (fun i hi=>(hkm i hi).1.1) (fun k hk=>by have:=kbk_bound hok (kidM (giveM d) m b) (fun i=>(mineF m.2 i b).length) hkm (N:=100000) (by rw[hsum];omega) k hk;omega) (fun k hk=>by
    have h1:=wtL_length (hkm k hk).1.2
    have h3:=(hkm k hk).2
    have h4:=mineF_length m.2 k b
    have h5:wt d (m.1.getD k noTr)<=wtL d m.1:=wt_le_wtL (getD_mem hk)
    omega) (fun i u hi' bu=>by
    have bu' :=Below.and bW bu
    refine(giveDown1_any d H (fun g=>(F g/\g<w.heap.size)/\g<W.heap.size) (.slice a1 m.1.length q1) (.slice a2 m.2.length q2) (.slice a3 b.length q3) w.heap.size (w.heap.size+1) m b f lo hi (tvAt xs i) i u (((ex.2 i (by rw[ex.1];exact hi')).lt.below bW).lt.below bu) (hc.row.below bu') (hb.below bu') (BX.step bu) (cell_lowB bu (by show w.heap.size+1<_;omega) BC) (by have:=bu.size;omega) hs hm hi' ?_).mono ?_
    ·have h5:wt d (m.1.getD i noTr)<=wtL d m.1:=wt_le_wtL (getD_mem hi')
     omega
    ·rintro e u' ⟨v1,v2,rfl,t1,t2,b1⟩
     exact⟨v1,v2,rfl,t1,t2,b1⟩)
  rw[ex.1] at this
  refine this.mono ?_
  rintro e w' ⟨v1,v2,rfl,t1,t2,b1⟩
  exact⟨v1,v2,rfl,t1,t2,b1⟩
 clear ht hc hb hs hm hok hn ex rx hkm hsum hsl H
 generalize downM (giveM d) m b=R at *
 generalize m.1.length=n1 at *
 generalize m.2.length=n2 at *
 generalize b.length=nb at *
 have X:Hid (BoxR (((w.alloc (.cells #[.slice a1 n1 q1, .slice a2 n2 q2] 96)).alloc (.cells #[.slice a3 nb q3] 33)).alloc (.cells #[.slice none 0 0, .slice none 0 0] 96)) w.heap.size #[.slice a1 n1 q1, .slice a2 n2 q2]/\BoxR (((w.alloc (.cells #[.slice a1 n1 q1, .slice a2 n2 q2] 96)).alloc (.cells #[.slice a3 nb q3] 33)).alloc (.cells #[.slice none 0 0, .slice none 0 0] 96)) (w.heap.size+2) #[.slice none 0 0, .slice none 0 0]/\(((w.alloc (.cells #[.slice a1 n1 q1, .slice a2 n2 q2] 96)).alloc (.cells #[.slice a3 nb q3] 33)).alloc (.cells #[.slice none 0 0, .slice none 0 0] 96)).cell? ⟨w.heap.size+1,0,none⟩=some (.slice a3 nb q3)):=by
  refine⟨((BoxR.start w _).step (al1 _ _)).step (al1 _ _), ?_, ?_⟩
  ·have:=BoxR.start ((w.alloc (.cells #[.slice a1 n1 q1, .slice a2 n2 q2] 96)).alloc (.cells #[.slice a3 nb q3] 33)) #[.slice none 0 0, .slice none 0 0]
   rw[World.size_alloc,World.size_alloc] at this
   exact this
  ·have h1:=hkeep (al1 _ (.cells #[.slice none 0 0, .slice none 0 0] 96)) (heap_alloc_new (w.alloc (.cells #[.slice a1 n1 q1, .slice a2 n2 q2] 96)) (.cells #[.slice a3 nb q3] 33))
   rw[World.size_alloc] at h1
   rw[cell_of_row _ _ 0 _ 33 (0,0) h1];rfl
 have C1:Hid _:=W3.out _ (al3 w _ _ _) X.out.1 X.out.2.2 (by simp)
 have x2:=X.out.1.two
 go_enter Tryz.func119,Tryz.ntmps119
 go_wp2_with fail
 refine Calls.mono C1.out ?_
 rintro e w1 ⟨v1,v2,rfl,t1,t2,b1⟩
 obtain⟨x1,y1,hv1,_⟩:=t1.els.choose_spec.2.row.len
 obtain⟨x2',y2,hv2,_⟩:=t2.row.len
 subst hv1 hv2
 have X3:=X.out.2.1.step b1
 obtain⟨g0,g1⟩:=X3.two
 obtain⟨f0,f1⟩:=X3.free
 have FIN:Hid (TreesF d (setR w1 (w.heap.size+2) (.slice x1 R.1.length y1) (.slice x2' R.2.length y2)) (fun g=>F g∨w.heap.size<=g) (.slice x1 R.1.length y1) R.1/\RowF (setR w1 (w.heap.size+2) (.slice x1 R.1.length y1) (.slice x2' R.2.length y2)) (fun g=>F g∨w.heap.size<=g) (.slice x2' R.2.length y2) R.2.length (flatI R.2)/\Below w.heap.size w (setR w1 (w.heap.size+2) (.slice x1 R.1.length y1) (.slice x2' R.2.length y2))/\BoxR (setR w1 (w.heap.size+2) (.slice x1 R.1.length y1) (.slice x2' R.2.length y2)) (w.heap.size+2) #[.slice x1 R.1.length y1, .slice x2' R.2.length y2]):=by
  have D:∀g,(F g/\g<w.heap.size)∨(((w.alloc (.cells #[.slice a1 n1 q1, .slice a2 n2 q2] 96)).alloc (.cells #[.slice a3 nb q3] 33)).alloc (.cells #[.slice none 0 0, .slice none 0 0] 96)).heap.size<=g->¬g=w.heap.size+2:=fun g hg e=>by rcases hg with⟨_,h⟩|h<;>(try simp at h)<;>omega
  have M1:∀g,(F g/\g<w.heap.size)∨(((w.alloc (.cells #[.slice a1 n1 q1, .slice a2 n2 q2] 96)).alloc (.cells #[.slice a3 nb q3] 33)).alloc (.cells #[.slice none 0 0, .slice none 0 0] 96)).heap.size<=g->F g∨w.heap.size<=g:=fun g hg=>hg.imp And.left (fun h=>by simp at h;omega)
  exact⟨(t1.chg (chg_setR w1 (w.heap.size+2) _ _) (fun g hg=>D g hg)).mono M1,(t2.chg (chg_setR w1 (w.heap.size+2) _ _) (fun g hg=>D g hg)).mono M1,((Below.and (al3 _ _ _ _) b1).setCell (p:=⟨w.heap.size+2,0,none⟩) (Nat.le_add_right _ _) _).setCell (p:=⟨w.heap.size+2,1,none⟩) (Nat.le_add_right _ _) _,X3.set2 _ _⟩
 clear t1 t2 b1 X3 X C1 W3 x2
 go_wp2
 have Z:=FIN.out.2.2.2.two
 exact bodyPost_ret (v:= .agg #[.slice x1 R.1.length y1, .slice x2' R.2.length y2]) (by simp[results,Tryz.results119,go_sem,Z.1,Z.2]) rfl ⟨_,_,rfl,FIN.out.1,FIN.out.2.1,FIN.out.2.2.1⟩
end
section
open Go.RowKit

def jumpsTo (J:Nat->Act->World->Prop) (Q:Exit->Act->World->Prop):Exit->Act->World->Prop
 |.goto l,a,w=>J l a w
 |e,a,w=>Q e a w

theorem wp_scope_many {P:Program} {c:Code} {Q:Exit->Act->World->Prop} {a:Act} {w:World} (J:Nat->Act->World->Prop) (μ :Nat->Act->World->Nat) (rest:Nat->Code)
  (hlab:∀l a w,J l a w->findLabel c l=some (rest l))
  (first:c.wp P (jumpsTo J Q) a w)
  (pass:∀l a w,J l a w->(rest l).wp P (jumpsTo (fun l' a' w' =>J l' a' w' ∧ μ l' a' w' < μ l a w) Q) a w):(Code.scope c).wp P Q a w:=by
 intro b k cs
 -- from any label on
 have back:∀n l a w, μ l a w<n->J l a w->∃e a' w',Q e a' w' ∧Arrives P (lone (b.at a (.code (rest l):: .inScope c::k)) cs w) b k cs e a' w' :=by
  intro n
  induction n with
  |zero=>intro l a w h;omega
  |succ n ih=>
   intro l a w hn hJ
   obtain⟨e,a1,w1,hq,arr⟩:=pass l a w hJ b (.inScope c::k) cs
   cases e with
   |goto l'=>
    have hq' :J l' a1 w1∧ μ l' a1 w1< μ l a w:=hq
    obtain⟨e2,a2,w2,hq2,arr2⟩:=ih l' a1 w1 (by omega) hq'.1
    have hg:gotoIn l' (.inScope c::k)=some (.code (rest l'):: .inScope c::k):=by simp[gotoIn,hlab l' a1 w1 hq'.1]
    exact⟨e2,a2,w2,hq2, .of_steps (arr _ hg) arr2⟩
   |normal=>exact⟨.normal,a1,w1,hq,Steps.trans arr (.one step_inScope)⟩
   |exit id=>exact⟨.exit id,a1,w1,hq,fun k' hk=>arr k' (by simp[exitTo,hk])⟩
   |ret=>exact⟨.ret,a1,w1,hq,arr⟩
   |panic ch=>exact⟨.panic ch,a1,w1,hq,arr⟩
   |outgrown=>exact⟨.outgrown,a1,w1,hq,arr⟩
 obtain⟨e,a1,w1,hq,arr⟩:=first b (.inScope c::k) cs
 cases e with
 |goto l=>
  have hJ:J l a1 w1:=hq
  obtain⟨e2,a2,w2,hq2,arr2⟩:=back _ l a1 w1 (Nat.lt_succ_self _) hJ
  have hg:gotoIn l (.inScope c::k)=some (.code (rest l):: .inScope c::k):=by simp[gotoIn,hlab l a1 w1 hJ]
  exact⟨e2,a2,w2,hq2, .of_steps (.head step_scope (arr _ hg)) arr2⟩
 |normal=>exact⟨.normal,a1,w1,hq, .head step_scope (Steps.trans arr (.one step_inScope))⟩
 |exit id=>exact⟨.exit id,a1,w1,hq,fun k' hk=> .head step_scope (arr k' (by simp[exitTo,hk]))⟩
 |ret=>exact⟨.ret,a1,w1,hq, .of_steps (.one step_scope) arr⟩
 |panic ch=>exact⟨.panic ch,a1,w1,hq, .of_steps (.one step_scope) arr⟩
 |outgrown=>exact⟨.outgrown,a1,w1,hq, .of_steps (.one step_scope) arr⟩
end
section
open Go.RowKit

theorem loopM_more {d:Nat} {g:Tr->ML->TM} (hg:Keeps d g):∀f f' (x:TM) (b:ML),MOk d x->b.length<=f->b.length<=f' ->loopM g f x b=loopM g f' x b
 |0,0,_,_,_,_,_=>rfl
 |0,f' +1,x,b,_,h,_=>by rw[loopM,loopM,if_neg (by omega)]
 |f+1,0,x,b,_,_,h=>by rw[loopM,loopM,if_neg (by omega)]
 |f+1,f' +1,x,b,hx,h,h' =>by
  rw[loopM,loopM]
  split
  ·have hat:=(mostTo_is x.2 b x.1.length (by have:=hx.1;omega)).1
   have hp:=most_pos (cs:=x.2) (b:=b) (n:=x.1.length) (by omega) (by have:=hx.1;omega)
   have hr:=mine_rest x.2 (mostTo x.2 b x.1.length).1 b
   have hk:=hg (x.1.getD (mostTo x.2 b x.1.length).1 noTr) (mineF x.2 (mostTo x.2 b x.1.length).1 b) (hx.2 _ (getD_mem hat)) hp
   exact loopM_more hg f f' _ _ (putM_ok hx hk.1 hat).1 (by omega) (by omega)
  ·rfl
theorem loop_step {d:Nat} {g:Tr->ML->TM} (hg:Keeps d g) {x:TM} {b:ML} (hx:MOk d x) (h6:6<b.length):loopM g b.length x b=loopM g (restF x.2 (mostTo x.2 b x.1.length).1 b).length (putM x (mostTo x.2 b x.1.length).1 (g (x.1.getD (mostTo x.2 b x.1.length).1 noTr) (mineF x.2 (mostTo x.2 b x.1.length).1 b))) (restF x.2 (mostTo x.2 b x.1.length).1 b):=by
 have hat:=(mostTo_is x.2 b x.1.length (by have:=hx.1;omega)).1
 have hp:=most_pos (cs:=x.2) (b:=b) (n:=x.1.length) (by omega) (by have:=hx.1;omega)
 have hr:=mine_rest x.2 (mostTo x.2 b x.1.length).1 b
 have hk:=hg (x.1.getD (mostTo x.2 b x.1.length).1 noTr) (mineF x.2 (mostTo x.2 b x.1.length).1 b) (hx.2 _ (getD_mem hat)) hp
 obtain⟨n,hn⟩:∃n,b.length=n+1:=⟨b.length-1,by omega⟩
 conv=>lhs;rw[hn,loopM,if_pos h6]
 exact loopM_more hg n _ _ _ (putM_ok hx hk.1 hat).1 (by omega) (Nat.le_refl _)
theorem loop_done {g:Tr->ML->TM} {x:TM} {b:ML} (h6:¬6<b.length):loopM g b.length x b=(x,b):=by
 cases h:b.length with
 |zero=>rfl
 |succ n=>rw[loopM,if_neg h6]
theorem end_down {d:Nat} {x:TM} {b:ML} (hx:MOk d x) (h4:4<x.1.length):endD (downM (giveM d) x b)=endM (giveM d) (x,b):=by
 have:=(downM_ok (giveM_ok d) hx b).2.2
 rw[endD,if_pos (by omega),endM,if_pos h4]

def jumps2 (J0 J1:Act->World->Prop) (Q:Exit->Act->World->Prop):Exit->Act->World->Prop
 |.goto 0,a,w=>J0 a w
 |.goto 1,a,w=>J1 a w
 |.goto _,_,_=>False
 |e,a,w=>Q e a w
theorem jumps2_imp {J0 J1:Act->World->Prop} {Q:Exit->Act->World->Prop} (J:Nat->Act->World->Prop) (h0:∀a w,J0 a w->J 0 a w) (h1:∀a w,J1 a w->J 1 a w):∀e a w,jumps2 J0 J1 Q e a w->jumpsTo J Q e a w:=by
 intro e a w h
 cases e with
 |goto l=>
  match l,h with
  |0,h=>exact h0 a w h
  |1,h=>exact h1 a w h
 |normal=>exact h
 |exit id=>exact h
 |ret=>exact h
 |panic ch=>exact h
 |outgrown=>exact h
theorem wp_scope_two {P:Program} {c r0 r1:Code} {Q:Exit->Act->World->Prop} {a:Act} {w:World} (J0 J1:Act->World->Prop) (μ :Act->World->Nat)
  (f0:findLabel c 0=some r0) (f1:findLabel c 1=some r1)
  (first:c.wp P (jumps2 J0 J1 Q) a w)
  (pass1:∀a w,J1 a w->r1.wp P (jumps2 J0 (fun a' w' =>J1 a' w' ∧ μ a' w' < μ a w) Q) a w)
  (pass0:∀a w,J0 a w->r0.wp P (jumps2 (fun _ _=>False) (fun _ _=>False) Q) a w):(Code.scope c).wp P Q a w:=by
 refine wp_scope_many (fun l a w=>(l=0/\J0 a w)∨(l=1/\J1 a w)) (fun l a w=>if l=0 then 0 else μ a w+1) (fun l=>if l=0 then r0 else r1) ?_ ?_ ?_
 ·rintro l a w (⟨rfl,_⟩|⟨rfl,_⟩)
  ·exact f0
  ·exact f1
 ·exact Code.wp_mono (jumps2_imp _ (fun a w h=> .inl ⟨rfl,h⟩) (fun a w h=> .inr ⟨rfl,h⟩)) first
 ·rintro l a w (⟨rfl,h⟩|⟨rfl,h⟩)
  ·exact Code.wp_mono (jumps2_imp _ (fun a w h=>h.elim) (fun a w h=>h.elim)) (pass0 a w h)
  ·refine Code.wp_mono (jumps2_imp _ (fun a' w' h=> ?_) (fun a' w' h=> ?_)) (pass1 a w h)
   ·exact⟨.inl ⟨rfl,h⟩,by simp⟩
   ·exact⟨.inr ⟨rfl,h.1⟩,by simp;exact h.2⟩
end
section
open Go.RowKit

def BoxC (w:World) (C:Nat) (A:Array Value):Prop:=w.heap[C]? =some (.cells A 148 (0,0))
theorem BoxC.three {u:World} {B:Nat} {x0 x1 x2:Value} (h:BoxC u B #[x0,x1,x2]):u.cell? ⟨B,0,none⟩=some x0/\u.cell? ⟨B,1,none⟩=some x1/\u.cell? ⟨B,2,none⟩=some x2:=
 ⟨by rw[cell_of_row u B 0 _ 148 (0,0) h];rfl,by rw[cell_of_row u B 1 _ 148 (0,0) h];rfl,by rw[cell_of_row u B 2 _ 148 (0,0) h];rfl⟩
theorem BoxC.free {u:World} {B:Nat} {A:Array Value} (h:BoxC u B A) (i:Nat):u.frozen? ⟨B,i,none⟩=false:=frozen_of_row u B i _ 148 h
theorem BoxC.step {u w' :World} {B:Nat} {A:Array Value} (h:BoxC u B A) (hb:Below u.heap.size u w'):BoxC w' B A:=(hb.block B (Array.getElem?_eq_some_iff.1 h).1).trans h
theorem BoxC.chg {P:Nat->Prop} {u w' :World} {B:Nat} {A:Array Value} (h:BoxC u B A) (hc:Chg P u w') (hP:¬P B):BoxC w' B A:=(hc.block B (Array.getElem?_eq_some_iff.1 h).1 hP).trans h
theorem BoxC.set1 {u:World} {L:Nat} {x0 x1 x2:Value} (h:BoxC u L #[x0,x1,x2]) (t:Value):BoxC (u.setCell ⟨L,1,none⟩ t) L #[x0,t,x2]:=heap_setCell_same u L 1 _ 148 t h
theorem BoxC.set2 {u:World} {L:Nat} {x0 x1 x2:Value} (h:BoxC u L #[x0,x1,x2]) (t:Value):BoxC (u.setCell ⟨L,2,none⟩ t) L #[x0,x1,t]:=heap_setCell_same u L 2 _ 148 t h


def wTV (x:TV):Nat:=1+lenV x.p+lenV x.c+lenV x.b
def wsum (xs:List TV) (k:Nat):Nat:=((xs.take k).map wTV).sum
def ptrs (K:Nat) (k:Nat):List Value:=(List.range k).map fun i=> .pointer (some ⟨K,i*5,none⟩)
def Slices (x:TV):Prop:=∃(r1 r2 r3 r4:Option Addr) (z1 z2 z3 z4 s1 s2 s3 s4:Nat),x=⟨x.lf, .slice r1 z1 s1, .slice r2 z2 s2, .slice r3 z3 s3, .slice r4 z4 s4⟩

theorem ptrs_succ (K k:Nat):ptrs K (k+1)=ptrs K k++[.pointer (some ⟨K,k*5,none⟩)]:=by simp[ptrs,List.range_succ]
theorem ptrs_length (K k:Nat):(ptrs K k).length=k:=by simp[ptrs]
theorem wsum_succ (xs:List TV) (k:Nat) (h:k<xs.length):wsum xs (k+1)=wsum xs k+wTV xs[k]:=by
 rw[wsum,List.take_succ_eq_append_getElem h,List.map_append,List.sum_append]
 simp[wsum]
theorem wsum_le (xs:List TV):∀j k,wsum xs k<=wsum xs (k+j)
 |0,_=>Nat.le_refl _
 |j+1,k=>by
  have h1:=wsum_le xs j k
  by_cases h:k+j<xs.length
  ·have:=wsum_succ xs (k+j) h
   rw[←Nat.add_assoc]
   omega
  ·have e:wsum xs (k+(j+1))=wsum xs (k+j):=by
    rw[wsum,wsum,List.take_of_length_le (by omega),List.take_of_length_le (by omega)]
   omega
theorem BoxC.apart {w:World} {C base e size n:Nat} {A:Array Value} {v:Value} {xs:List Value} (h:BoxC w C A) (ho:OwnE w base e size v n xs) (he:e≠148):¬wrB v C:=fun k=>by
 obtain⟨c,j⟩:=ho.block C k
 rw[show w.heap[C]? =_ from h] at j
 simp at j
 exact he j.2.symm
theorem MadeAt.apart {w:World} {M base e size n:Nat} {V:Nat->Prop} {v:Value} {xs:List Value} (h:MadeAt w M V) (ho:OwnE w base e size v n xs):¬wrB v M:=fun k=>by
 obtain⟨c,j⟩:=ho.block M k
 obtain⟨es,ck,hb,_⟩:=h
 rw[hb] at j
 simp at j
theorem MadeAt.ne {w:World} {M C:Nat} {V:Nat->Prop} {A:Array Value} (h:MadeAt w M V) (hC:BoxC w C A):¬C=M:=fun e=>by
 obtain⟨es,ck,hb,_⟩:=h
 subst e
 rw[show w.heap[C]? =_ from hC] at hb
 simp at hb
theorem MadeAt.set {w:World} {M b i:Nat} {V:Nat->Prop} (h:MadeAt w M V) (hb:Plain w b) (v:Value):MadeAt (w.setCell ⟨b,i,none⟩ v) M V:=by
 obtain⟨c0,t0,h0⟩:=hb
 have hne:¬M=b:=fun e=>by
  obtain⟨es,ck,h1,_⟩:=h
  subst e
  rw[h0] at h1
  simp at h1
 refine h.chg (chg_set1 w b i v) hne (fun g hg c t hc=> ?_)
 subst hg
 rw[h0] at hc
 obtain⟨rfl,rfl⟩:c0=c/\t0=t:=by simpa using hc
 exact⟨_,_,heap_setCell_same w g i _ _ v h0⟩

theorem MadeAt.keep {P:Nat->Prop} {w w' :World} {M:Nat} {V:Nat->Prop} (h:MadeAt w M V) (hc:Chg P w w') (hM:¬P M) (hV:∀g,V g->¬P g):MadeAt w' M V:=by
 obtain⟨es,clock,hb,hk⟩:=h
 refine⟨es,clock,(hc.block M (Array.getElem?_eq_some_iff.1 hb).1 hM).trans hb,fun e he=> ?_⟩
 obtain⟨a,n,h1,⟨c,t,h2⟩,h3⟩:=hk e he
 exact⟨a,n,h1,⟨c,t,(hc.block _ (Array.getElem?_eq_some_iff.1 h2).1 (hV _ h3)).trans h2⟩,h3⟩
end
section
open Go.RowKit

def Src (d:Bool) (n:Nat) (w:World) (F:Nat->Prop) (x:TV) (T:Tr):Prop:=(d=true->TreeD n w F x T)/\TreeF n w F x T
theorem Src.not0 {d:Bool} {w:World} {F:Nat->Prop} {x:TV} {T:Tr} (h:Src d 0 w F x T):False:=h.2
theorem Src.parts {d:Bool} {n:Nat} {w:World} {F:Nat->Prop} {x:TV} {T:Tr} (h:Src d (n+1) w F x T) :
  x.lf=T.leaf/\RowF w F x.p T.pairs.length (flatP T.pairs)/\RowF w F x.c T.cuts.length (flatI T.cuts)/\RowF w F x.b T.buf.length (flatM T.buf)∧
   ∃(xs:List TV) (K:Nat->Nat->Prop),xs.length=T.kids.length/\RowF w F x.k xs.length (flatT xs)/\(∀i,i<xs.length->Src d n w (K i) (tvAt xs i) (T.kids.getD i noTr))∧
    (d=true->(0<xs.length->∃g q,x.k= .slice (some ⟨g,0,none⟩) xs.length q/\F g/\∀i,i<xs.length->¬K i g)/\(∀i g,i<xs.length->K i g->F g)/\∀i j g,i<j->j<xs.length->K i g->¬K j g):=by
 cases d with
 |false=>
  obtain⟨h1,h2,h3,h4,xs,h5,h6,h7⟩:=h.2
  exact⟨h1,h2,h3,h4,xs,fun _=>F,h5,h6,fun i hi=>⟨(fun e=>by cases e),h7 i hi⟩,(fun e=>by cases e)⟩
 |true=>
  obtain⟨h1,h2,h3,h4,h5,xs,K,k1,k2,k3,k4,k5⟩:=h.1 rfl
  refine⟨h1,h2.rowF.mono (fun g hg=>h5 g (.inl hg)),h3.rowF.mono (fun g hg=>h5 g (.inr (.inl hg))),h4.rowF.mono (fun g hg=>h5 g (.inr (.inr (.inl hg)))),xs,K,k1,k2.rowF.mono (fun g hg=>h5 g (.inr (.inr (.inr hg)))),fun i hi=>⟨fun _=>k3 i hi,(k3 i hi).treeF⟩,fun _=>⟨fun hn=> ?_,fun i g hi hg=>(k4 i g hi hg).1,k5⟩⟩
  obtain⟨g,q,hv,hq,_⟩:=k2.pos hn
  have hw:wrB x.k g:=⟨_,_,hv,hq⟩
  exact⟨g,q,hv,h5 g (.inr (.inr (.inr hw))),fun i hi hk=>(k4 i g hi hk).2 (.inr (.inr (.inr hw)))⟩

structure Pd where
 b:Nat
 o:Nat
 x:TV
 T:Tr
 n:Nat
 F:Nat->Prop

def Pd.ptr (p:Pd):Value:= .pointer (some ⟨p.b,p.o,none⟩)
def Holds (u:World) (b o:Nat) (x:TV):Prop:=∃c:Array Value,u.heap[b]? =some (.cells c 35 (0,0))/\c[o]? =some (.bool x.lf)/\c[o+1]? =some x.p/\c[o+2]? =some x.c/\c[o+3]? =some x.k/\c[o+4]? =some x.b
def InPd (ps:List Pd) (g i:Nat):Prop:=∃p∈ps,p.b=g/\p.o<=i/\i<p.o+5
def TreeTy (t:Nat):Prop:=t=108∨t=3∨t=38∨t=35
def Only (ps:List Pd) (u u' :World):Prop:=
 u.heap.size<=u'.heap.size/\∀g c t,TreeTy t->u.heap[g]? =some (.cells c t (0,0))->∃c',u'.heap[g]? =some (.cells c' t (0,0))/\c'.size=c.size/\∀i,¬InPd ps g i->c'[i]? =c[i]?
def Kont (u:World) (ps:List Pd) (Fin:World->Prop):Prop:=
 ∀(u' :World) (ys:List TV) (G:Nat->Nat->Prop),ys.length=ps.length->Only ps u u' →
  (∀j p,ps[j]? =some p->Holds u' p.b p.o (tvAt ys j))->(∀j p,ps[j]? =some p->TreeD p.n u' (G j) (tvAt ys j) p.T)→
  (∀j g,j<ps.length->G j g->u.heap.size<=g)->(∀i j g,i<j->j<ps.length->G i g->¬G j g)->Fin u'

theorem Only.refl (ps:List Pd) (u:World):Only ps u u:=⟨Nat.le_refl _,fun _ c _ _ h=>⟨c,h,rfl,fun _ _=>rfl⟩⟩
theorem Only.trans {ps qs rs:List Pd} {u u1 u' :World} (h:Only ps u u1) (k:Only qs u1 u') (hr:∀g i,g<u.heap.size->¬InPd rs g i->¬InPd ps g i/\¬InPd qs g i):Only rs u u' :=by
 refine⟨Nat.le_trans h.1 k.1,fun g c t ht hg=> ?_⟩
 obtain⟨c1,a1,a2,a3⟩:=h.2 g c t ht hg
 obtain⟨c2,b1,b2,b3⟩:=k.2 g c1 t ht a1
 have hl:=(Array.getElem?_eq_some_iff.1 hg).1
 exact⟨c2,b1,b2.trans a2,fun i hi=>(b3 i (hr g i hl hi).2).trans (a3 i (hr g i hl hi).1)⟩
theorem Only.same {ps:List Pd} {u u' :World} (h:Only ps u u') {g t:Nat} {c:Array Value} (ht:TreeTy t) (hg:u.heap[g]? =some (.cells c t (0,0))) (hn:∀p∈ps,p.b≠g):u'.heap[g]? =u.heap[g]? :=by
 obtain⟨c',a1,a2,a3⟩:=h.2 g c t ht hg
 have e:c' =c:=by
  apply Array.ext_getElem?
  intro i
  exact a3 i (fun ⟨p,hp,hb,_⟩=>hn p hp hb)
 rw[a1,e,hg]
theorem Only.of_below {ps:List Pd} {u u' :World} (h:Below u.heap.size u u'):Only ps u u':=
 ⟨h.size,fun g c _ _ hg=>⟨c,(h.block g (Array.getElem?_eq_some_iff.1 hg).1).trans hg,rfl,fun _ _=>rfl⟩⟩
theorem Only.of_chg {ps:List Pd} {P:Nat->Prop} {u u' :World} (h:Chg P u u') (hP:∀g c t,P g->TreeTy t->¬u.heap[g]? =some (.cells c t (0,0))):Only ps u u':=
 ⟨h.size,fun g c t ht hg=>⟨c,(h.block g (Array.getElem?_eq_some_iff.1 hg).1 (fun hp=>hP g c t hp ht hg)).trans hg,rfl,fun _ _=>rfl⟩⟩
theorem Only.set {p:Pd} {u:World} {c:Array Value} (hb:u.heap[p.b]? =some (.cells c 35 (0,0))) (j:Nat) (hj:j<5) (v:Value):Only [p] u (u.setCell ⟨p.b,p.o+j,none⟩ v):=by
 have hs:=heap_setCell_same u p.b (p.o+j) _ 35 v hb
 refine⟨by simp[World.size_setCell],fun g c1 t ht hg=> ?_⟩
 by_cases e:g=p.b
 ·subst e
  rw[hb] at hg
  obtain⟨rfl,rfl⟩:c=c1/\35=t:=by simpa using hg
  refine⟨_,hs,by simp,fun i hi=> ?_⟩
  rw[Array.getElem?_setIfInBounds]
  split
  ·rename_i h
   subst h
   exact absurd ⟨p,by simp,rfl,by omega,by omega⟩ hi
  ·rfl
 ·exact⟨c1,((chg_set1 u p.b (p.o+j) v).block g (Array.getElem?_eq_some_iff.1 hg).1 e).trans hg,rfl,fun _ _=>rfl⟩

theorem Holds.kept {ps:List Pd} {u u' :World} {b o:Nat} {x:TV} (h:Holds u b o x) (k:Only ps u u') (hn:∀j,j<5->¬InPd ps b (o+j)):Holds u' b o x:=by
 obtain⟨c,h0,h1,h2,h3,h4,h5⟩:=h
 obtain⟨c',a1,a2,a3⟩:=k.2 b c _ (.inr (.inr (.inr rfl))) h0
 exact⟨c',a1,(a3 o (hn 0 (by omega))).trans h1,(a3 _ (hn 1 (by omega))).trans h2,(a3 _ (hn 2 (by omega))).trans h3,(a3 _ (hn 3 (by omega))).trans h4,(a3 _ (hn 4 (by omega))).trans h5⟩
theorem Holds.lt {u:World} {b o:Nat} {x:TV} (h:Holds u b o x):b<u.heap.size:=by
 obtain⟨c,h0,_⟩:=h
 exact(Array.getElem?_eq_some_iff.1 h0).1
theorem OwnE.only {ps:List Pd} {u u' :World} {base e size n:Nat} {v:Value} {xs:List Value} (h:OwnE u base e size v n xs) (k:Only ps u u') (he:TreeTy e) (hn:∀p∈ps,¬wrB v p.b):OwnE u' base e size v n xs:=by
 refine h.frame (fun g hg hl=> ?_)
 obtain⟨cur,hc⟩:=h.block g hg
 exact k.same he hc (fun p hp e=>hn p hp (e ▸ hg))

def kidPd (K n:Nat) (xs:List TV) (ts:List Tr) (KF:Nat->Nat->Prop):List Pd:=(List.range xs.length).map fun i=>⟨K,i*5,tvAt xs i,ts.getD i noTr,n,KF i⟩
theorem kidPd_length (K n:Nat) (xs:List TV) (ts:List Tr) (KF:Nat->Nat->Prop):(kidPd K n xs ts KF).length=xs.length:=by simp[kidPd]
theorem kidPd_at (K n:Nat) (xs:List TV) (ts:List Tr) (KF:Nat->Nat->Prop) (i:Nat) (h:i<xs.length):(kidPd K n xs ts KF)[i]? =some ⟨K,i*5,tvAt xs i,ts.getD i noTr,n,KF i⟩:=by simp[kidPd,h]
theorem kidPd_mem {K n:Nat} {xs:List TV} {ts:List Tr} {KF:Nat->Nat->Prop} {p:Pd} (h:p∈kidPd K n xs ts KF):∃i,i<xs.length/\p=⟨K,i*5,tvAt xs i,ts.getD i noTr,n,KF i⟩:=by
 simp only[kidPd,List.mem_map,List.mem_range] at h
 obtain⟨i,hi,rfl⟩:=h
 exact⟨i,hi,rfl⟩
theorem kidPd_ptr (K n:Nat) (xs:List TV) (ts:List Tr) (KF:Nat->Nat->Prop):(kidPd K n xs ts KF).map Pd.ptr=ptrs K xs.length:=by
 simp[kidPd,ptrs,Pd.ptr,Function.comp_def]

theorem kids_row {ps:List Pd} {u1 u' :World} {base K Q:Nat} {xs ys:List TV} (h:OwnE u1 base 35 5 (.slice (some ⟨K,0,none⟩) xs.length Q) xs.length (flatT xs)) (hn:0<xs.length) (k:Only ps u1 u') (hy:ys.length=xs.length) (hh:∀i,i<xs.length->Holds u' K (i*5) (tvAt ys i)):OwnE u' base 35 5 (.slice (some ⟨K,0,none⟩) ys.length Q) ys.length (flatT ys):=by
 have h:u1.ownsRow base 35 5 (.slice (some ⟨K,0,none⟩) xs.length Q) xs.length (flatT xs):=by
  rcases h with h|⟨h0,_⟩
  ·exact h
  ·omega
 obtain⟨hl,⟨h,_⟩|⟨g,cap,cur,hv,hg,hh0,hnc,hcap,hsz,htake⟩⟩:=h
 ·simp at h
 simp at hv
 obtain⟨rfl,rfl⟩:=hv
 obtain⟨c',a1,a2,a3⟩:=k.2 K cur _ (.inr (.inr (.inr rfl))) hh0
 refine .inl ⟨flatT_length ys, .inr ⟨K,Q,c',rfl,hg,a1,by omega,hcap,by rw[a2,hsz], ?_⟩⟩
 apply List.ext_getElem?
 intro j
 rw[List.getElem?_take]
 split
 ·rename_i hj
  have hi:j/5<xs.length:=by omega
  obtain⟨c2,b0,b1,b2,b3,b4,b5⟩:=hh (j/5) hi
  rw[a1] at b0
  obtain rfl:c' =c2:=by simpa using b0
  obtain⟨f1,f2,f3,f4,f5⟩:=flatT_at ys (j/5) (by omega)
  have hm:j%5<5:=Nat.mod_lt _ (by omega)
  have hj5:j=j/5*5+j%5:=by omega
  rw[Array.getElem?_toList]
  rcases(by omega:j%5=0∨j%5=1∨j%5=2∨j%5=3∨j%5=4) with e|e|e|e|e<;>rw[e] at hj5
  ·rw[hj5,show j/5*5+0=j/5*5 from rfl,b1,f1]
  ·rw[hj5,b2,f2]
  ·rw[hj5,b3,f3]
  ·rw[hj5,b4,f4]
  ·rw[hj5,b5,f5]
 ·rename_i hj
  rw[List.getElem?_eq_none]
  rw[flatT_length]
  omega
end
end Go.Proofs.YtcmofojechfccaaGreat
