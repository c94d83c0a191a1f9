/-
  Copies of machines own their memory.
  The laws' own copy of a tree lies in memory of its own, each row apart from all others.
  toMachine: a machine copied out of the law's own kind lies in memory of its own, every row apart.
-/
import Derived.Test.YtkcaelfkcepdkaaGreatOfNote20
import Derived.Test.YtkcaelfkcepdkaaGreatOfNote3
import Derived.Test.YtkcaelfkcepdkaaGreatOfNote9
import Derived.Test.YtkcaelfkcepdkaaGreatOfNote13
import Derived.Test.YtkcaelfkcepdkaaGreatOfNote15
import Derived.Test.YtkcaelfkcepdkaaGreatOfNote6
namespace Go.Proofs.YtkcaelfkcepdkaaGreat
set_option maxRecDepth 100000
set_option maxHeartbeats 8000000
section
open Go.RowKit

theorem Ag {p:Prop} (h:p):Hid p:=h
def AQ (n:Nat) (w:World) (F:Nat->Prop) (m:Bv) (T:Tr) (l:DL):Prop:=Aw n w F m.x T/\Ac w 0 141 4 m.v l.length (Au l)/\∀g,wrB m.v g->F g
theorem AQ.below {n:Nat} {w w' :World} {F:Nat->Prop} {m:Bv} {T:Tr} {l:DL} (h:AQ n w F m T l) (hb:Below w.heap.size w w'):AQ n w' F m T l:=⟨h.1.below hb,h.2.1.below hb,h.2.2⟩
theorem AQ.mono {n:Nat} {w:World} {F G:Nat->Prop} {m:Bv} {T:Tr} {l:DL} (h:AQ n w F m T l) (hF:∀g,F g->G g):AQ n w G m T l:=⟨h.1.mono hF,h.2.1,fun g hg=>hF g (h.2.2 g hg)⟩
theorem AQ.chg {n:Nat} {w w' :World} {F P:Nat->Prop} {m:Bv} {T:Tr} {l:DL} (h:AQ n w F m T l) (hc:Chg P w w') (hd:∀g,F g->¬P g):AQ n w' F m T l:=⟨h.1.chg hc hd,h.2.1.chg hc (fun g hg=>hd g (h.2.2 g hg)),h.2.2⟩
theorem Ac.sl {w:World} {base e size k:Nat} {v:Value} {xs:List Value} (h:Ac w base e size v k xs):∃x:Option Addr × Nat × Nat,v= .slice x.1 x.2.1 x.2.2:=by
 obtain⟨a,cap,e⟩:=h.slice
 exact⟨(a,k,cap),e⟩
theorem Aw.sl {n:Nat} {w:World} {F:Nat->Prop} {x:TV} {T:Tr} (h:Aw n w F x T):∃(b:Bool) (x1 x2 x3 x4:Option Addr × Nat × Nat),x=⟨b, .slice x1.1 x1.2.1 x1.2.2, .slice x2.1 x2.2.1 x2.2.2, .slice x3.1 x3.2.1 x3.2.2, .slice x4.1 x4.2.1 x4.2.2⟩:=by
 obtain⟨a1,a2,a3,a4,b1,b2,b3,b4,hy⟩:=h.treeF.treeAt.shape
 exact⟨_,(a1,_,b1),(a2,_,b2),(a3,_,b3),(a4,_,b4),hy⟩
theorem EC (l:DL):∀y∈Au l,y.oneCell' =true:=by
 intro y hy;simp only[Au,List.mem_flatMap] at hy
 obtain⟨p,_,hp⟩:=hy
 simp at hp
 rcases hp with rfl|rfl|rfl|rfl<;>rfl
theorem Nh {W:World} {R:Nat} {t:TypeId} {x0 x1 x2 x3 x4 x5:Value} (a b c d e f:Value) (h:W.heap[R]? =some (.cells #[x0,x1,x2,x3,x4,x5] t (0,0))):((((((W.setCell ⟨R,0,none⟩ a).setCell ⟨R,1,none⟩ b).setCell ⟨R,2,none⟩ c).setCell ⟨R,3,none⟩ d).setCell ⟨R,4,none⟩ e).setCell ⟨R,5,none⟩ f).heap[R]? =some (.cells #[a,b,c,d,e,f] t (0,0))/\Chg (fun g=>g=R) W ((((((W.setCell ⟨R,0,none⟩ a).setCell ⟨R,1,none⟩ b).setCell ⟨R,2,none⟩ c).setCell ⟨R,3,none⟩ d).setCell ⟨R,4,none⟩ e).setCell ⟨R,5,none⟩ f):=by
 have h0:=heap_setCell_same W R 0 _ _ a h
 have h1:=heap_setCell_same _ R 1 _ _ b h0
 have h2:=heap_setCell_same _ R 2 _ _ c h1
 have h3:=heap_setCell_same _ R 3 _ _ d h2
 have h4:=heap_setCell_same _ R 4 _ _ e h3
 have h5:=heap_setCell_same _ R 5 _ _ f h4
 exact⟨by simpa using h5,((((((Chg.refl (fun g=>g=R) W).setAt R 0 rfl a).setAt R 1 rfl b).setAt R 2 rfl c).setAt R 3 rfl d).setAt R 4 rfl e).setAt R 5 rfl f⟩

theorem Ru (args:Array Value) (w:World):(callFunc 126 args).run Tryz.prog w= .ok (.enter 126 args) w:=by go_simp
theorem RW (args:Array Value) (w:World):(callFunc 81 args).run Tryz.prog w= .ok (.enter 81 args) w:=by go_simp

theorem Dp (d:Bool) (n:Nat) (m:Bv) (T:Tr) (l:DL) (F:Nat->Prop) (w:World) (ht:Src d n w F m.x T) (hr:Row w m.v l.length (Au l)) (hs:Az n T<=1048576) (hd:d=false->Az n T<=100000) (hl:l.length<=1048576) :
  Calls Tryz.prog 109 #[m.val] w fun e w' =>∃m' :Bv,e= .returned m'.val/\AQ n w' (fun g=>w.heap.size<=g) m' T l/\Below w.heap.size w w' :=by
 have C1:Hid (∀u,Below w.heap.size w u->Calls Tryz.prog 126 #[m.x.val] u fun e w' =>∃y:TV,e= .returned y.val/\Aw n w' (fun g=>u.heap.size<=g) y T/\Below u.heap.size u w'):=fun u hu=>Iw d n m.x T F u (ht.below hu) hs hd
 have C2:Hid (∀u,Below w.heap.size w u->Calls Tryz.prog 81 #[m.v] u fun e w' =>∃v',e= .returned v' ∧Ac w' u.heap.size 141 4 v' l.length (Au l)/\Below u.heap.size u w'):=fun u hu=>IH m.v l.length (Au l) u (hr.below hu) (Cm l) (EC l) (by omega)
 clear ht hr hs hd hl;obtain⟨⟨lf,p,c,k,b⟩,v⟩:=m
 have N1:=Ag ((Ai.start 71 w #[.bool lf,p,c,k,b,v]).step (Ae _ (.cells #[.bool false, .slice none 0 0, .slice none 0 0, .slice none 0 0, .slice none 0 0, .slice none 0 0] 71)))
 have N2:Hid (Ai 71 ((w.alloc (.cells #[.bool lf,p,c,k,b,v] 71)).alloc (.cells #[.bool false, .slice none 0 0, .slice none 0 0, .slice none 0 0, .slice none 0 0, .slice none 0 0] 71)) (w.heap.size+1) #[.bool false, .slice none 0 0, .slice none 0 0, .slice none 0 0, .slice none 0 0, .slice none 0 0]):=by
  have:=Ai.start 71 (w.alloc (.cells #[.bool lf,p,c,k,b,v] 71)) #[.bool false, .slice none 0 0, .slice none 0 0, .slice none 0 0, .slice none 0 0, .slice none 0 0]
  rw[World.size_alloc] at this
  exact this
 have B2:Hid (Below w.heap.size w ((w.alloc (.cells #[.bool lf,p,c,k,b,v] 71)).alloc (.cells #[.bool false, .slice none 0 0, .slice none 0 0, .slice none 0 0, .slice none 0 0, .slice none 0 0] 71))):=Below.and (Ae _ _) (Ae _ _)
 have ZZ:Hid (((w.alloc (.cells #[.bool lf,p,c,k,b,v] 71)).alloc (.cells #[.bool false, .slice none 0 0, .slice none 0 0, .slice none 0 0, .slice none 0 0, .slice none 0 0] 71)).heap.size=w.heap.size+2):=by show _=_;simp
 show Calls Tryz.prog 109 #[.agg #[.bool lf,p,c,k,b,v]] w _
 go_enter Tryz.func109,Tryz.ntmps109
 go_wp2_with fail;generalize ((w.alloc (.cells #[.bool lf,p,c,k,b,v] 71)).alloc (.cells #[.bool false, .slice none 0 0, .slice none 0 0, .slice none 0 0, .slice none 0 0, .slice none 0 0] 71))=W at *
 have KEEP:Hid (∀u,Below W.heap.size W u->(fun u=>(∀j,u.cell? ⟨w.heap.size,j,none⟩=(#[.bool lf,p,c,k,b,v]:Array Value)[j]?)) u):=fun u hu=>(N1.out.step hu).cells
 have SL:Hid (Below W.heap.size W W.drew):=(Below.refl _ _).drew
 refine wp_region_held_drew (S:=(fun u=>(∀j,u.cell? ⟨w.heap.size,j,none⟩=(#[.bool lf,p,c,k,b,v]:Array Value)[j]?))) (by kernel_rfl) (KEEP.out _ SL.out) (fun hH=> ?_)
 refine wpAnyH_take (i:=0) (oi:=⟨_,_,_,_,_,_⟩) (v:= ?_) rfl (by kernel_rfl) (by kernel_rfl) (by kernel_rfl) (fun _ _ _ h=>h) (Or.inl ⟨by rfl, ?_⟩) (by assumption) ?_
 rotate_left
 ·((intro w hSw;(try dsimp only at hSw);go_simp);(try with_reducible rfl))
 try simp only[Act.put,List.setIfInBounds_toArray,List.set_cons_zero,List.set_cons_succ]
 refine wpAnyH_take (i:=1) (oi:=⟨_,_,_,_,_,_⟩) (v:= ?_) rfl (by kernel_rfl) (by kernel_rfl) (by kernel_rfl) (fun _ _ _ h=>h) (Or.inl ⟨by rfl, ?_⟩) (by assumption) ?_
 rotate_left
 ·((intro w hSw;(try dsimp only at hSw);go_simp);(try with_reducible rfl))
 try simp only[Act.put,List.setIfInBounds_toArray,List.set_cons_zero,List.set_cons_succ]
 refine wpAnyH_take (i:=3) (oi:=⟨_,_,_,_,_,_⟩) (v:= ?_) rfl (by kernel_rfl) (by kernel_rfl) (by kernel_rfl) (fun _ _ _ h=>h) (Or.inl ⟨by rfl, ?_⟩) (by assumption) ?_
 rotate_left
 ·((intro w hSw;(try dsimp only at hSw);go_simp);(try with_reducible rfl))
 try simp only[Act.put,List.setIfInBounds_toArray,List.set_cons_zero,List.set_cons_succ]
 refine wpAnyH_take (i:=4) (oi:=⟨_,_,_,_,_,_⟩) (v:= ?_) rfl (by kernel_rfl) (by kernel_rfl) (by kernel_rfl) (fun _ _ _ h=>h) (Or.inl ⟨by rfl, ?_⟩) (by assumption) ?_
 rotate_left
 ·((intro w hSw;(try dsimp only at hSw);go_simp);(try with_reducible rfl))
 try simp only[Act.put,List.setIfInBounds_toArray,List.set_cons_zero,List.set_cons_succ]
 refine wpAnyH_ready (rs:=[2]) (by kernel_rfl) (by simp) ?_
 refine AllReadyH.cons (o:=⟨_,_,_,_,_,_⟩) rfl (fun K hK=> ?_) AllReadyH.nil
 refine(if_pos (show Region.wanted _ _=true by kernel_rfl)).mpr ?_
 refine Bm 126 [.tmp 4] #[69] rfl Ru _ rfl (C1.out _ (Below.and B2.out SL.out)) ?_
 rintro e u1 ⟨y,rfl,t1,b1⟩
 have T1:=Ag (t1.mono (G:=fun g=>w.heap.size+2<=g) (fun g hg=>by have h1:=SL.out.size;have h2:=ZZ.out;omega))
 obtain⟨l1,x1,x2,x3,x4,hy⟩:=t1.sl
 subst hy;replace SL:=Ag (Below.and SL.out b1)
 clear t1 b1;refine⟨_,rfl, ?_⟩
 refine hK.out _ _ (KEEP.out _ SL.out) (fun hH2=> ?_)
 clear hK K hH;have hH:=hH2
 clear hH2;try simp only[Act.put,List.setIfInBounds_toArray,List.set_cons_zero,List.set_cons_succ]
 refine wpAnyH_ready (rs:=[5]) (by kernel_rfl) (by simp) ?_
 refine AllReadyH.cons (o:=⟨_,_,_,_,_,_⟩) rfl (fun K hK=> ?_) AllReadyH.nil
 refine(if_pos (show Region.wanted _ _=true by kernel_rfl)).mpr ?_
 refine Bm 81 [.tmp 7] #[34] rfl RW _ rfl (C2.out _ (Below.and B2.out SL.out)) ?_
 rintro e u2 ⟨v5,rfl,o5,b5⟩
 have O5:=Ag (o5.mono (base' :=w.heap.size+2) (by have h1:=SL.out.size;have h2:=ZZ.out;omega))
 obtain⟨x5,hx⟩:=o5.sl
 subst hx;replace SL:=Ag (Below.and SL.out b5)
 replace T1:=Ag (T1.out.below b5)
 clear o5 b5;refine⟨_,rfl, ?_⟩
 refine hK.out _ _ (KEEP.out _ SL.out) (fun hH2=> ?_)
 clear hK K hH;have hH:=hH2
 clear hH2;try simp only[Act.put,List.setIfInBounds_toArray,List.set_cons_zero,List.set_cons_succ]
 refine wpAnyH_take (i:=6) (oi:=⟨_,_,_,_,_,_⟩) (v:= ?_) rfl (by kernel_rfl) (by kernel_rfl) (by kernel_rfl) (fun _ _ _ h=>h) (Or.inl ⟨by rfl, ?_⟩) (by assumption) ?_
 rotate_left
 ·((intro w hSw;(try dsimp only at hSw);go_simp);(try with_reducible rfl))
 try simp only[Act.put,List.setIfInBounds_toArray,List.set_cons_zero,List.set_cons_succ]
 have M2:=N2.out.step SL.out
 have m0:∀j,u2.cell? ⟨w.heap.size+1,j,none⟩=(#[.bool false, .slice none 0 0, .slice none 0 0, .slice none 0 0, .slice none 0 0, .slice none 0 0]:Array Value)[j]? :=M2.cells
 have f0:∀j,u2.frozen? ⟨w.heap.size+1,j,none⟩=false:=fun j=>Ab M2
 have X:=Nh (.bool l1) (.slice x1.1 x1.2.1 x1.2.2) (.slice x2.1 x2.2.1 x2.2.2) (.slice x3.1 x3.2.1 x3.2.2) (.slice x4.1 x4.2.1 x4.2.2) (.slice x5.1 x5.2.1 x5.2.2) M2
 have MD:AQ n u2 (fun g=>w.heap.size+2<=g) ⟨⟨l1, .slice x1.1 x1.2.1 x1.2.2, .slice x2.1 x2.2.1 x2.2.2, .slice x3.1 x3.2.1 x3.2.2, .slice x4.1 x4.2.1 x4.2.2⟩, .slice x5.1 x5.2.1 x5.2.2⟩ T l:=⟨T1.out,O5.out.mono (Nat.zero_le _),fun g hg=>(O5.out.lt g hg).1⟩
 have KS:=Ag (Al (N1.out.step SL.out) X.2 (by omega))
 have BB:=Below.and B2.out SL.out
 have FIN:=Ag (And.intro X.1 (And.intro ((MD.chg X.2 (fun g hg=>by omega)).mono (G:=fun g=>w.heap.size<=g) (fun g hg=>by omega)) (BB.trans (X.2.below (fun g _ hg=>by omega) BB.size))))
 clear M2 X MD BB;refine wpAnyH_ready (rs:=[7]) (by kernel_rfl) (by simp) ?_
 refine AllReadyH.cons (o:=⟨_,_,_,_,_,_⟩) rfl (fun K hK=> ?_) AllReadyH.nil
 go_simp
 refine hK.out _ _ (fun j=>Aa KS.out) (fun hH2=> ?_)
 clear hK K hH;have hH:=hH2
 clear hH2;try simp only[Act.put,List.setIfInBounds_toArray,List.set_cons_zero,List.set_cons_succ]
 refine wpAnyH_done (by kernel_rfl) ?_ _
 clear hH m0 f0;go_wp2_with fail;simp[bodyPost,results,Tryz.results109,go_sem,Aa FIN.out.1]
 exact⟨⟨⟨l1, .slice x1.1 x1.2.1 x1.2.2, .slice x2.1 x2.2.1 x2.2.2, .slice x3.1 x3.2.1 x3.2.2, .slice x4.1 x4.2.1 x4.2.2⟩, .slice x5.1 x5.2.1 x5.2.2⟩,by simp,FIN.out.2⟩
end
section
open Go.RowKit

theorem Aw.setCell {n:Nat} {w:World} {F:Nat->Prop} {x:TV} {T:Tr} (h:Aw n w F x T) {a:Addr} (ha:¬F a.block) (u:Value):Aw n (w.setCell a u) F x T:=
 h.frame fun _ hg _=>Below.heap_setCell _ _ _ _ (fun e=>ha (e ▸ hg))
def Gf (n:Nat) (w:World) (base k:Nat) (ys:List TV) (ts:List Tr):Prop:=
 ∃K:Nat->Nat->Prop,(∀i,i<k->Aw n w (K i) (Ak ys i) (ts.getD i AR))/\(∀i g,i<k->K i g->base<=g/\g<w.heap.size)/\∀i j g,i<j->j<k->K i g->¬K j g
theorem Gf.zero (n:Nat) (w:World) (base:Nat) (ys:List TV) (ts:List Tr):Gf n w base 0 ys ts:=⟨fun _ _=>False,fun i hi=>by omega,fun i g hi=>by omega,fun i j g _ hj=>by omega⟩
theorem Gf.setCell {n:Nat} {w:World} {base k:Nat} {ys:List TV} {ts:List Tr} (h:Gf n w base k ys ts) {a:Addr} (ha:a.block<base) (u:Value):Gf n (w.setCell a u) base k ys ts:=by
 obtain⟨K,h1,h2,h3⟩:=h
 exact⟨K,fun i hi=>(h1 i hi).setCell (fun hk=>by have:=(h2 i _ hi hk).1;omega) u,fun i g hi hg=>by have:=h2 i g hi hg;simpa using this,h3⟩
theorem Gf.add {n:Nat} {w w1:World} {base k:Nat} {ys:List TV} {ts:List Tr} {y:TV} (h:Gf n w base k ys ts) (hb:Below w.heap.size w w1) (hy:Aw n w1 (fun g=>w.heap.size<=g) y (ts.getD k AR)) (hk:k<ys.length) (hw:base<=w.heap.size):Gf n w1 base (k+1) (ys.set k y) ts:=by
 obtain⟨K,h1,h2,h3⟩:=h
 refine⟨fun i g=>(i<k/\K i g)∨(i=k/\w.heap.size<=g/\g<w1.heap.size),fun i hi=> ?_,fun i g hi hg=> ?_,fun i j g hij hj hg hg' => ?_⟩
 ·by_cases hik:i<k
  ·rw[Mp _ _ _ _ (by omega)]
   exact((h1 i hik).below hb).mono (fun g hg=> .inl ⟨hik,hg⟩)
  ·have:i=k:=by omega
   subst this;rw[Mc _ _ _ hk]
   exact hy.lt.mono (fun g hg=> .inr ⟨rfl,hg⟩)
 ·have hs:=hb.size
  rcases hg with⟨hik,hg⟩|⟨_,hg⟩
  ·have:=h2 i g hik hg
   omega
  ·omega
 ·rcases hg with⟨hik,hg⟩|⟨hik,hg⟩<;>rcases hg' with⟨hjk,hg'⟩|⟨hjk,hg'⟩
  ·exact h3 i j g hij hjk hg hg'
  ·have:=h2 i g hik hg
   omega
  ·omega
  ·omega
def D7 (n:Nat) (w:World) (lo hi:Nat) (v:Value) (ts:List Tr):Prop:=
 ∃(xs:List TV) (K:Nat->Nat->Prop),xs.length=ts.length/\w.ownsRow lo 69 5 v xs.length (AA xs)/\(∀i,i<xs.length->Aw n w (K i) (Ak xs i) (ts.getD i AR))/\(∀i g,i<xs.length->K i g->lo<=g/\g<hi/\¬wrB v g)/\∀i j g,i<j->j<xs.length->K i g->¬K j g
theorem D7.setCell {n:Nat} {w:World} {lo hi:Nat} {v:Value} {ts:List Tr} (h:D7 n w lo hi v ts) {a:Addr} (ha:a.block<lo) (u:Value):D7 n (w.setCell a u) lo hi v ts:=by
 obtain⟨xs,K,h1,h2,h3,h4,h5⟩:=h
 exact⟨xs,K,h1,ownsRow_setCell_below h2 ha u,fun i hi=>(h3 i hi).setCell (fun hk=>by have:=(h4 i _ hi hk).1;omega) u,h4,h5⟩
theorem D7.below {n:Nat} {w w' :World} {lo hi:Nat} {v:Value} {ts:List Tr} (h:D7 n w lo hi v ts) (hb:Below w.heap.size w w'):D7 n w' lo hi v ts:=by
 obtain⟨xs,K,h1,h2,h3,h4,h5⟩:=h
 exact⟨xs,K,h1,Bc h2 hb,fun i hi=>(h3 i hi).below hb,h4,h5⟩
theorem D7.slice {n:Nat} {w:World} {lo hi:Nat} {v:Value} {ts:List Tr} (h:D7 n w lo hi v ts):∃(a:Option Addr) (m q:Nat),v= .slice a m q:=by
 obtain⟨xs,_,_,h6,_⟩:=h
 obtain⟨a,q,e,_⟩:=(Row.of_owns h6).len
 exact⟨a,_,q,e⟩
def J5 (n:Nat):Prop:=∀(x:TV) (T:Tr) (w:World),Bb n w x T->Az n T<=1048576→
  Calls Tryz.prog 98 #[x.val] w fun e w' =>∃y:TV,e= .returned y.val/\Aw n w' (fun g=>w.heap.size<=g) y T/\Below w.heap.size w w'
def Lm (n:Nat):Prop:=∀(v:Value) (ts:List Tr) (w:World),BR n w v ts->Cl n ts<=1048576→
  Calls Tryz.prog 119 #[v] w fun e w' =>∃v' :Value,e= .returned v' ∧D7 n w' w.heap.size w'.heap.size v' ts/\Below w.heap.size w w'

theorem Mw {n:Nat} (H:J5 n):Lm n:=by
 intro v ts w hts hsz;obtain⟨xs,hxl,hrow,hk⟩:=hts
 obtain⟨a,b,off,cap,rfl,hcap,hmax,ha,c0,c1,c2,c3,c4⟩:=hrow.trees
 obtain⟨i0,hi,hz0,hz1,hz2⟩:=info_parts Tryz.info69
 unfold maxLen at hmax;have XL:=hid (hxl)
 have hn:xs.length<=1048576:=by unfold Cl at hsz;omega
 have SZ:Hid (∀k,k<xs.length->Az n (ts.getD k AR)<=1048576):=by
  intro k hk;have h1:=EZ n ts k (by omega)
  have h2:=IF n ts (k+1)
  unfold Cl at hsz;omega
 clear hxl hsz;go_enter Tryz.func119,Tryz.ntmps119
 go_wp2_with (at_make;refine wpList_make_full _ rfl _ _ 66 rfl w.heap.size 69 i0 _ 5 Tryz.underlying66 hi hz0 hz1 .i64 .i64 _ _ xs.length rfl rfl rfl rfl ?c1 ?c2 ?c3 ?_)
 case c1=>rw[hz2];omega
 case c2=>unfold maxLen;omega
 case c3=>exact Nat.le_refl _
 intro w0 hown0 hgrow0;have hb0:Below w.heap.size w w0:=(Below.refl _ _).grown hgrow0 (Nat.le_refl _) (fun k hk=>by cases hk)
 clear hgrow0;rw[show(madeCells _ (xs.length*5)).toList=AA (List.replicate xs.length II) from Iz xs.length] at hown0
 go_wp2;go_loopw [4] (fun i wr=>∃(k:Nat) (ys:List TV),k<=xs.length/\i= .int .i64 k/\Hid (ys.length=xs.length)/\Hid (wr.ownsRow w.heap.size 69 5 (.slice (some ⟨w.heap.size,0,none⟩) xs.length xs.length) xs.length (AA ys))/\Hid (Gf n wr (w.heap.size+1) k ys ts)/\Below w.heap.size w wr)
  (fun i _=>xs.length-(intOf i).toNat)
 case atStart=>exact⟨0,List.replicate xs.length II,Nat.zero_le _,rfl,by show _=_;simp,hown0,Gf.zero _ _ _ _ _,hb0⟩
 case round=>
  obtain⟨k,ys,hkl,rfl,YL,OWN,KS,hb⟩:=hrel
  clear hown0 hb0;by_cases hlt:k<xs.length
  ·have hal:=ha (by omega)
   subst hal;have d0:=(hb.cell (by exact Ah (c0 k hlt))).trans (c0 k hlt)
   have d1:=(hb.cell (by exact Ah (c1 k hlt))).trans (c1 k hlt)
   have d2:=(hb.cell (by exact Ah (c2 k hlt))).trans (c2 k hlt)
   have d3:=(hb.cell (by exact Ah (c3 k hlt))).trans (c3 k hlt)
   have d4:=(hb.cell (by exact Ah (c4 k hlt))).trans (c4 k hlt)
   have T0:=hid ((hk k hlt).below hb)
   have S0:=hid (SZ.out k hlt)
   clear c0 c1 c2 c3 c4 hk hrow ha;go_wp2_with fail;refine(H (Ak xs k) _ _ T0.out S0.out).mono ?_
   rintro e w1 ⟨y,rfl,own,hb1⟩
   obtain⟨a1,a2,a3,a4,q1,q2,q3,q4,hy⟩:=own.treeF.treeAt.shape
   generalize (ts.getD k AR).leaf=m0,(ts.getD k AR).pairs.length=m1,(ts.getD k AR).cuts.length=m2,(ts.getD k AR).kids.length=m3,(ts.getD k AR).buf.length=m4 at hy
   have own1:=Bc OWN.out hb1
   have hwr:w.heap.size+1<=wr.heap.size:=by
    have:=(Row.of_owns OWN.out)
    obtain⟨_,h|⟨g,cap',cur,hg,_,hh,_⟩⟩:=OWN.out
    ·cases h.1
    ·cases hg
     exact(Array.getElem?_eq_some_iff.1 hh).1
   have hat:=Cz ys k (by have:=YL.out;omega)
   have e0:=(own1.cellAt (k*5) (by omega)).trans hat.1
   have e1:=(own1.cellAt (k*5+1) (by omega)).trans hat.2.1
   have e2:=(own1.cellAt (k*5+2) (by omega)).trans hat.2.2.1
   have e3:=(own1.cellAt (k*5+3) (by omega)).trans hat.2.2.2.1
   have e4:=(own1.cellAt (k*5+4) (by omega)).trans hat.2.2.2.2
   have f0:=own1.frozenAt (k*5)
   have f1:=own1.frozenAt (k*5+1)
   have f2:=own1.frozenAt (k*5+2)
   have f3:=own1.frozenAt (k*5+3)
   have f4:=own1.frozenAt (k*5+4)
   have st:=(((((own1.stored (k*5) (.bool y.lf)).1.stored (k*5+1) y.p).1.stored (k*5+2) y.c).1.stored (k*5+3) y.k).1.stored (k*5+4) y.b).1
   rw[Pu _ _ k (by have:=YL.out;omega)] at st
   have hb2:Below w.heap.size w w1:=hb.trans (hb1.mono hb.size)
   have KS2:=hid (KS.out.add hb1 own (by have:=YL.out;omega) hwr)
   have YL2:Hid ((ys.set k y).length=xs.length):=by
    have:=YL.out
    show _=_
    simpa using this
   have ST:Hid _:=st
   generalize Ak ys k=z at *
   subst hy;clear st OWN hb1 d0 d1 d2 d3 d4 own1 own hat KS T0 S0 YL hwr;go_wp2;go_roundw
   case rel=>exact⟨k+1,_,by omega,by go_num,YL2,ST.out,((((KS2.out.setCell (Nat.lt_succ_self _) _).setCell (Nat.lt_succ_self _) _).setCell (Nat.lt_succ_self _) _).setCell (Nat.lt_succ_self _) _).setCell (Nat.lt_succ_self _) _,((((hb2.setCell (Nat.le_refl _) _).setCell (Nat.le_refl _) _).setCell (Nat.le_refl _) _).setCell (Nat.le_refl _) _).setCell (Nat.le_refl _) _⟩
   case measure=>simp[intOf];omega
  ·clear c0 c1 c2 c3 c4 hk hrow ha;go_wp2;go_ret;have hkk:k=xs.length:=by omega
   subst hkk;obtain⟨K,k1,k2,k3⟩:=KS.out
   refine⟨_,rfl,⟨ys,K,by rw[YL.out,XL.out],by rw[YL.out];exact OWN.out,fun i hi=>k1 i (by rw[←YL.out];exact hi),fun i g hi hg=> ?_,fun i j g hij hj=>k3 i j g hij (by rw[←YL.out];exact hj)⟩,hb⟩
   have h4:=k2 i g (by rw[←YL.out];exact hi) hg
   refine⟨by omega,h4.2,fun hw=> ?_⟩
   obtain⟨_,_,he,_⟩:=hw
   have:=congrArg Value.ownBlock he
   simp[Value.ownBlock] at this
   omega

theorem MY {n:Nat} (H:Lm n):J5 (n+1):=by
 intro x T w ht hsz;obtain⟨lf,p,c,k,b⟩:=x
 obtain⟨hlf,hp,hc,hb,hk⟩:=ht.parts
 simp only at hlf hp hc hb hk
 have hS:Az (n+1) T=T.pairs.length+(T.cuts.length+(Cl n T.kids+T.buf.length)):=rfl
 have s1:T.pairs.length<=1048576:=by omega
 have s2:T.cuts.length<=1048576:=by omega
 have s3:Cl n T.kids<=1048576:=by omega
 have s4:T.buf.length<=1048576:=by omega
 have R1:=hid (hp)
 have R2:=hid (hc)
 have R3:=hid (hk)
 have R4:=hid (hb)
 have LF:=hid (hlf)
 clear hp hc hb hk ht hlf hS hsz;have st0:=hid (EM.start w #[.bool lf,p,c,k,b] #[.bool false, .slice none 0 0, .slice none 0 0, .slice none 0 0, .slice none 0 0] #[.bool lf, .slice none 0 0, .slice none 0 0, .slice none 0 0, .slice none 0 0])
 have bo0:Hid (Below w.heap.size w (((w.alloc (.cells #[.bool lf,p,c,k,b] 54)).alloc (.cells #[.bool false, .slice none 0 0, .slice none 0 0, .slice none 0 0, .slice none 0 0] 69)).alloc (.cells #[.bool lf, .slice none 0 0, .slice none 0 0, .slice none 0 0, .slice none 0 0] 69))):=
  (((Below.refl _ _).alloc (Nat.le_refl _) _).alloc (by simp) _).alloc (by simp;omega) _
 show Calls Tryz.prog 98 #[.agg #[.bool lf,p,c,k,b]] w _
 go_enter Tryz.func98,Tryz.ntmps98
 go_wp2_with fail;refine(K8 _ T.pairs _ (R1.out.below bo0.out) s1).mono ?_
 rintro e w1 ⟨v1,rfl,own1,hb1⟩
 have B1:=hid (Below.and bo0.out hb1)
 have S1:=hid (st0.out.step hb1)
 have O1:=hid (A6 own1 st0.out.size)
 obtain⟨a1,q1,rfl,_⟩:=(Row.of_owns own1).len
 have L1:=hid (fun g (hg:wrB (.slice a1 T.pairs.length q1) g)=>((Ac.lt (.inl own1)) g hg).2)
 obtain⟨k0,k1,k2,k3,k4⟩:=S1.out.cells
 clear hb1 own1 bo0 st0;go_wp2_with fail;have B1' :=B1.out.setCell (p:=⟨w.heap.size+1+1,1,none⟩) (by show w.heap.size<=w.heap.size+1+1;omega) (.slice a1 T.pairs.length q1)
 have S1' :=S1.out.set 1 (.slice a1 T.pairs.length q1)
 refine(Gm _ T.cuts _ (R2.out.below B1') s2).mono ?_
 rintro e w2 ⟨v2,rfl,own2,hb2⟩
 have B2:=hid (Below.and B1' hb2)
 have S2:=hid (S1'.step hb2)
 have Z2:Hid (w1.heap.size<=w2.heap.size):=(by have:=hb2.size;simpa using this:w1.heap.size<=w2.heap.size)
 have O2:=hid (A6 own2 S1'.size)
 have O1' :=hid (Bc (ownsRow_setCell_below O1.out (a:=⟨w.heap.size+1+1,1,none⟩) (by show w.heap.size+1+1<w.heap.size+3;omega) _) hb2)
 obtain⟨a2,q2,rfl,_⟩:=(Row.of_owns own2).len
 have L2:=hid (fun g (hg:wrB (.slice a2 T.cuts.length q2) g)=>((Ac.lt (.inl own2)) g hg).2)
 have Z0:=hid (S2.out.size)
 clear hb2 own2 B1 B1' S1 S1' O1 k0 k1 k2 k3 k4;obtain⟨k0,k1,k2,k3,k4⟩:=S2.out.cells
 go_wp2_with fail;have B2' :=B2.out.setCell (p:=⟨w.heap.size+1+1,2,none⟩) (by show w.heap.size<=w.heap.size+1+1;omega) (.slice a2 T.cuts.length q2)
 have S2' :=S2.out.set 2 (.slice a2 T.cuts.length q2)
 refine(H _ T.kids _ (R3.out.below B2') s3).mono ?_
 rintro e w3 ⟨v3,rfl,own3,hb3⟩
 have B3:=hid (Below.and B2' hb3)
 have S3:=hid (S2'.step hb3)
 have O3:Hid (D7 n w3 w2.heap.size w3.heap.size v3 T.kids):=(by have:=own3;simpa using this:D7 n w3 w2.heap.size w3.heap.size v3 T.kids)
 have O1:=hid (Bc (ownsRow_setCell_below O1'.out (a:=⟨w.heap.size+1+1,2,none⟩) (by show w.heap.size+1+1<w.heap.size+3;omega) _) hb3)
 have O2' :=hid (Bc (ownsRow_setCell_below O2.out (a:=⟨w.heap.size+1+1,2,none⟩) (by show w.heap.size+1+1<w.heap.size+3;omega) _) hb3)
 obtain⟨a3,m3,q3,rfl⟩:=own3.slice
 clear hb3 own3 B2 B2' S2 S2' O1' O2 k0 k1 k2 k3 k4;obtain⟨k0,k1,k2,k3,k4⟩:=S3.out.cells
 go_wp2_with fail;have B3' :=B3.out.setCell (p:=⟨w.heap.size+1+1,3,none⟩) (by show w.heap.size<=w.heap.size+1+1;omega) (.slice a3 m3 q3)
 have S3' :=S3.out.set 3 (.slice a3 m3 q3)
 refine(MQ _ T.buf _ (R4.out.below B3') s4).mono ?_
 rintro e w4 ⟨v4,rfl,own4,hb4⟩
 have B4:=hid (Below.and B3' hb4)
 have S4:=hid (S3'.step hb4)
 have O4:=hid (A6 own4 S3'.size)
 have L4:Hid (∀g,wrB v4 g->w3.heap.size<=g):=fun g hg=>by have:=((Ac.lt (.inl own4)) g hg).1;simpa using this
 have O1' :=hid (Bc (ownsRow_setCell_below O1.out (a:=⟨w.heap.size+1+1,3,none⟩) (by show w.heap.size+1+1<w.heap.size+3;omega) _) hb4)
 have O2:=hid (Bc (ownsRow_setCell_below O2'.out (a:=⟨w.heap.size+1+1,3,none⟩) (by show w.heap.size+1+1<w.heap.size+3;omega) _) hb4)
 have O3' :=hid ((O3.out.setCell (a:=⟨w.heap.size+1+1,3,none⟩) (by show w.heap.size+1+1<w2.heap.size;have:=Z0.out;omega) _).below hb4)
 obtain⟨a4,q4,rfl,_⟩:=(Row.of_owns own4).len
 clear hb4 own4 B3 B3' S3 S3' O1 O2' O3 k0 k1 k2 k3 k4;obtain⟨k0,k1,k2,k3,k4⟩:=S4.out.cells
 go_wp2;refine bodyPost_ret (v:= .agg #[.bool lf, .slice a1 T.pairs.length q1, .slice a2 T.cuts.length q2, .slice a3 m3 q3, .slice a4 T.buf.length q4]) (by simp[results,Tryz.results98,go_sem,k1]) rfl ⟨⟨lf, .slice a1 T.pairs.length q1, .slice a2 T.cuts.length q2, .slice a3 m3 q3, .slice a4 T.buf.length q4⟩,rfl, ?_, ?_⟩
 ·have hT:Aw (n+1) w4 (fun g=>w.heap.size+3<=g) ⟨lf, .slice a1 T.pairs.length q1, .slice a2 T.cuts.length q2, .slice a3 m3 q3, .slice a4 T.buf.length q4⟩ T:=by
   obtain⟨xs,K,e1,e2,e3,e4,e5⟩:=O3'.out
   have z0:=Z0.out
   have z2:=Z2.out
   refine⟨LF.out, .inl (A6 O1'.out (Nat.zero_le _)), .inl (A6 O2.out (Nat.zero_le _)), .inl (A6 O4.out (Nat.zero_le _)),fun g hg=> ?_,xs,K,e1, .inl (A6 e2 (Nat.zero_le _)),e3,fun i g hi hg=>⟨?_,fun hw=> ?_⟩,e5⟩
   ·rcases hg with hg|hg|hg|hg
    ·exact((Ac.lt (.inl O1'.out)) g hg).1
    ·exact((Ac.lt (.inl O2.out)) g hg).1
    ·exact((Ac.lt (.inl O4.out)) g hg).1
    ·have:=((Ac.lt (.inl e2)) g hg).1
     omega
   ·have:=(e4 i g hi hg).1
    omega
   ·have hk:=e4 i g hi hg
    rcases hw with hw|hw|hw|hw
    ·have:=L1.out g hw
     omega
    ·have:=L2.out g hw
     omega
    ·have:=L4.out g hw
     omega
    ·exact hk.2.2 hw
  refine Aw.mono (F:=fun g=>w.heap.size+3<=g) ?_ (fun g hg=>by omega)
  repeat (refine Aw.setCell ?_ (by simp only[];omega) _)
  exact hT
 ·repeat (refine Below.setCell ?_ (by simp only[];omega) _)
  exact B4.out

theorem H9:∀n,J5 n
 |0=>fun _ _ _ h=>h.elim
 |n+1=>MY (Mw (H9 n))
end
section
open Go.RowKit

theorem Ac.of_owns {w:World} {base e size k:Nat} {v:Value} {xs:List Value} (h:w.ownsRow base e size v k xs):Ac w base e size v k xs:= .inl h
theorem Lo {n:Nat} {w:World} {F:Nat->Prop} {R:Nat} {x:TV} {T:Tr} (h:Aw n w F x T) (hR:¬F R) (a b c d e:Value):Aw n (((((w.setCell ⟨R,0,none⟩ a).setCell ⟨R,1,none⟩ b).setCell ⟨R,2,none⟩ c).setCell ⟨R,3,none⟩ d).setCell ⟨R,4,none⟩ e) F x T:=
 ((((h.setCell hR a).setCell hR b).setCell hR c).setCell hR d).setCell hR e
theorem Ql {n:Nat} {w:World} {F:Nat->Prop} {R:Nat} {x:TV} {T:Tr} (h:Aw n w F x T) (hR:¬F R) (a b c d e f:Value):Aw n ((((((w.setCell ⟨R,0,none⟩ a).setCell ⟨R,1,none⟩ b).setCell ⟨R,2,none⟩ c).setCell ⟨R,3,none⟩ d).setCell ⟨R,4,none⟩ e).setCell ⟨R,5,none⟩ f) F x T:=
 (Lo h hR a b c d e).setCell hR f

theorem D6 (n:Nat) (m:Bv) (T:Tr) (l:DL) (w:World) (h:DJ n w m T l) (hs:Az n T<=1048576) (hl:l.length<=1048576) :
  Calls Tryz.prog 62 #[m.val] w fun e w' =>∃m' :Bv,e= .returned m'.val/\AQ n w' (fun g=>w.heap.size<=g) m' T l/\Below w.heap.size w w' :=by
 obtain⟨⟨lf,p,c,k,b⟩,v⟩:=m
 have b0:Below w.heap.size w (((w.alloc (.cells #[.bool lf,p,c,k,b,v] 56)).alloc (.cells #[.bool false, .slice none 0 0, .slice none 0 0, .slice none 0 0, .slice none 0 0, .slice none 0 0] 71)).alloc (.cells #[.bool false, .slice none 0 0, .slice none 0 0, .slice none 0 0, .slice none 0 0, .slice none 0 0] 71)):=(((Below.refl _ _).alloc (Nat.le_refl _) _).alloc (by simp) _).alloc (by simp;omega) _
 have n0:=Ai.step (Ai.step (Ai.start 56 w #[.bool lf,p,c,k,b,v]) (Ae _ (.cells #[.bool false, .slice none 0 0, .slice none 0 0, .slice none 0 0, .slice none 0 0, .slice none 0 0] 71))) (Ae _ (.cells #[.bool false, .slice none 0 0, .slice none 0 0, .slice none 0 0, .slice none 0 0, .slice none 0 0] 71))
 have n1:=Ai.step (Ai.start 71 (w.alloc (.cells #[.bool lf,p,c,k,b,v] 56)) #[.bool false, .slice none 0 0, .slice none 0 0, .slice none 0 0, .slice none 0 0, .slice none 0 0]) (Ae _ (.cells #[.bool false, .slice none 0 0, .slice none 0 0, .slice none 0 0, .slice none 0 0, .slice none 0 0] 71))
 have n2:=Ai.start 71 ((w.alloc (.cells #[.bool lf,p,c,k,b,v] 56)).alloc (.cells #[.bool false, .slice none 0 0, .slice none 0 0, .slice none 0 0, .slice none 0 0, .slice none 0 0] 71)) #[.bool false, .slice none 0 0, .slice none 0 0, .slice none 0 0, .slice none 0 0, .slice none 0 0]
 simp only[World.size_alloc] at n1 n2
 have zz:(((w.alloc (.cells #[.bool lf,p,c,k,b,v] 56)).alloc (.cells #[.bool false, .slice none 0 0, .slice none 0 0, .slice none 0 0, .slice none 0 0, .slice none 0 0] 71)).alloc (.cells #[.bool false, .slice none 0 0, .slice none 0 0, .slice none 0 0, .slice none 0 0, .slice none 0 0] 71)).heap.size=w.heap.size+3:=by simp
 have c0:=n0.cells
 have H:Hid _:=And.intro h (And.intro b0 (And.intro n0 (And.intro n1 (And.intro n2 zz))))
 clear h b0 n0 n1 n2 zz;show Calls Tryz.prog 62 #[.agg #[.bool lf,p,c,k,b,v]] w _
 go_enter Tryz.func62,Tryz.ntmps62
 go_wp2_with fail;generalize (((w.alloc (.cells #[.bool lf,p,c,k,b,v] 56)).alloc (.cells #[.bool false, .slice none 0 0, .slice none 0 0, .slice none 0 0, .slice none 0 0, .slice none 0 0] 71)).alloc (.cells #[.bool false, .slice none 0 0, .slice none 0 0, .slice none 0 0, .slice none 0 0, .slice none 0 0] 71))=W at *
 refine(H9 n ⟨lf,p,c,k,b⟩ T W (H.out.1.1.below H.out.2.1) hs).mono ?_
 rintro e w1 ⟨y,rfl,t1,b1⟩
 obtain⟨h,b0,n0,n1,n2,zz⟩:=H.out
 obtain⟨a1,a2,a3,a4,q1,q2,q3,q4,hy⟩:=t1.treeF.treeAt.shape
 generalize T.leaf=m0,T.pairs.length=m1,T.cuts.length=m2,T.kids.length=m3,T.buf.length=m4 at hy
 subst hy;have p0:=n0.step b1
 have p1:=n1.step b1
 have p2:=n2.step b1
 have r2:=Sv (.bool m0) (.slice a1 m1 q1) (.slice a2 m2 q2) (.slice a3 m3 q3) (.slice a4 m4 q4) p2
 have g2:=Rk w1 (w.heap.size+1+1) (.bool m0) (.slice a1 m1 q1) (.slice a2 m2 q2) (.slice a3 m3 q3) (.slice a4 m4 q4)
 have r0:=Al p0 g2 (by omega)
 have r1:=Al p1 g2 (by omega)
 have t2:=Lo (R:=w.heap.size+1+1) t1 (by omega) (.bool m0) (.slice a1 m1 q1) (.slice a2 m2 q2) (.slice a3 m3 q3) (.slice a4 m4 q4)
 have B1:=Below.and b0 b1
 have B2:=B1.trans (g2.below (fun g _ hg=>by omega) B1.size)
 have f1:∀j,w1.frozen? ⟨w.heap.size+1+1,j,none⟩=false:=fun j=>Ab p2
 have d0:∀j,w1.cell? ⟨w.heap.size+1+1,j,none⟩=(#[.bool false, .slice none 0 0, .slice none 0 0, .slice none 0 0, .slice none 0 0, .slice none 0 0]:Array Value)[j]? :=fun j=>Aa p2
 have d1:∀j,(((((w1.setCell ⟨w.heap.size+1+1,0,none⟩ (.bool m0)).setCell ⟨w.heap.size+1+1,1,none⟩ (.slice a1 m1 q1)).setCell ⟨w.heap.size+1+1,2,none⟩ (.slice a2 m2 q2)).setCell ⟨w.heap.size+1+1,3,none⟩ (.slice a3 m3 q3)).setCell ⟨w.heap.size+1+1,4,none⟩ (.slice a4 m4 q4)).cell? ⟨w.heap.size,j,none⟩=(#[.bool lf,p,c,k,b,v]:Array Value)[j]? :=fun j=>Aa r0
 have hz1:w.heap.size+3<=w1.heap.size:=by have:=b1.size;omega
 have G:Hid _:=And.intro h.2 (And.intro t2 (And.intro r1 (And.intro r2 (And.intro B2 (And.intro zz hz1)))))
 clear h b0 n0 n1 n2 zz p0 p1 p2 r0 r1 r2 g2 t2 B1 B2 H t1 b1 c0;go_wp2_with fail;generalize hW2:(((((w1.setCell ⟨w.heap.size+1+1,0,none⟩ (.bool m0)).setCell ⟨w.heap.size+1+1,1,none⟩ (.slice a1 m1 q1)).setCell ⟨w.heap.size+1+1,2,none⟩ (.slice a2 m2 q2)).setCell ⟨w.heap.size+1+1,3,none⟩ (.slice a3 m3 q3)).setCell ⟨w.heap.size+1+1,4,none⟩ (.slice a4 m4 q4))=W2 at *
 obtain⟨hv,t2,r1,r2,B2,zz,hz1⟩:=G.out
 have hz2:W2.heap.size=w1.heap.size:=by rw[←hW2];simp
 clear d0 f1 hW2 G;refine(Ib v l W2 (hv.below B2) hl).mono ?_
 rintro e w3 ⟨v3,rfl,o3,b3⟩
 obtain⟨a5,q5,hv3⟩:=BQ o3
 subst hv3;generalize hm5:l.length=m5 at *
 have s1:=(b3.block _ (Array.getElem?_eq_some_iff.1 r1).1).trans r1
 have s2:=(b3.block _ (Array.getElem?_eq_some_iff.1 r2).1).trans r2
 have t3:=t2.below b3
 have B3:=Below.and B2 b3
 have u2:=SP (.slice a5 m5 q5) s2
 have g3:Chg (fun g=>g=w.heap.size+1+1) w3 (w3.setCell ⟨w.heap.size+1+1,5,none⟩ (.slice a5 m5 q5)):=(Chg.refl (fun g=>g=w.heap.size+1+1) w3).setAt (w.heap.size+1+1) 5 rfl (.slice a5 m5 q5)
 have u1:=Al s1 g3 (by omega)
 have t4:=t3.setCell (a:=⟨w.heap.size+1+1,5,none⟩) (by simp only;omega) (.slice a5 m5 q5)
 have o4:=Cw o3 g3 (fun g hg e=>by have:=(o3.lt g hg).1;omega)
 have B4:=B3.trans (g3.below (fun g _ hg=>by omega) B3.size)
 have x1:=Sr (.bool m0) (.slice a1 m1 q1) (.slice a2 m2 q2) (.slice a3 m3 q3) (.slice a4 m4 q4) (.slice a5 m5 q5) u1
 have g5:=Sc (w3.setCell ⟨w.heap.size+1+1,5,none⟩ (.slice a5 m5 q5)) (w.heap.size+1) (.bool m0) (.slice a1 m1 q1) (.slice a2 m2 q2) (.slice a3 m3 q3) (.slice a4 m4 q4) (.slice a5 m5 q5)
 have t5:=Ql (R:=w.heap.size+1) t4 (by omega) (.bool m0) (.slice a1 m1 q1) (.slice a2 m2 q2) (.slice a3 m3 q3) (.slice a4 m4 q4) (.slice a5 m5 q5)
 have o5:=Cw o4 g5 (fun g hg e=>by have:=(o4.lt g hg).1;omega)
 have B5:=B4.trans (g5.below (fun g _ hg=>by omega) B4.size)
 have f2:∀j,w3.frozen? ⟨w.heap.size+1+1,j,none⟩=false:=fun j=>Ab s2
 have f3:∀j,(w3.setCell ⟨w.heap.size+1+1,5,none⟩ (.slice a5 m5 q5)).frozen? ⟨w.heap.size+1,j,none⟩=false:=fun j=>Ab u1
 have c2:∀j,w3.cell? ⟨w.heap.size+1+1,j,none⟩=(#[.bool m0, .slice a1 m1 q1, .slice a2 m2 q2, .slice a3 m3 q3, .slice a4 m4 q4, .slice none 0 0]:Array Value)[j]? :=fun j=>Aa s2
 have c3:∀j,(w3.setCell ⟨w.heap.size+1+1,5,none⟩ (.slice a5 m5 q5)).cell? ⟨w.heap.size+1+1,j,none⟩=(#[.bool m0, .slice a1 m1 q1, .slice a2 m2 q2, .slice a3 m3 q3, .slice a4 m4 q4, .slice a5 m5 q5]:Array Value)[j]? :=fun j=>Aa u2
 have c4:∀j,(w3.setCell ⟨w.heap.size+1+1,5,none⟩ (.slice a5 m5 q5)).cell? ⟨w.heap.size+1,j,none⟩=(#[.bool false, .slice none 0 0, .slice none 0 0, .slice none 0 0, .slice none 0 0, .slice none 0 0]:Array Value)[j]? :=fun j=>Aa u1
 have X1:Hid _:=x1
 have K:Hid _:=And.intro (t5.mono (G:=fun g=>w.heap.size<=g) (fun g hg=>by omega)) (And.intro (A6 (base' :=w.heap.size) o5 (by omega)) B5)
 clear s1 s2 t3 B3 u2 g3 u1 t4 o4 B4 x1 g5 t5 o5 B5 o3 b3 r1 r2 t2 B2 hv zz hz1 hz2 d1;go_wp2_with fail;simp[bodyPost,results,Tryz.results62,go_sem,Aa X1.out]
 refine⟨⟨⟨m0, .slice a1 m1 q1, .slice a2 m2 q2, .slice a3 m3 q3, .slice a4 m4 q4⟩, .slice a5 m5 q5⟩,by simp,⟨K.out.1, ?_, ?_⟩,K.out.2.2⟩
 ·have:=Ac.of_owns (A6 (base' :=0) K.out.2.1 (Nat.zero_le _))
  rw[hm5]
  exact this
 ·intro g hg;exact((Ac.of_owns K.out.2.1).lt g hg).1
end
end Go.Proofs.YtkcaelfkcepdkaaGreat
