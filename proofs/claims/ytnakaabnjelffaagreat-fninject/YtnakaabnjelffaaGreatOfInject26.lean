/-
  What the model's Inject and Drain make of a tree, as plain functions.
  The contract of the model's Inject.
  The contract of the model's Drain.
  A call of a function in a region that draws its order.
  The model's drawing of messages that may be wrong, and of rows of them.
  The contract of the model's l2DrawRight.
-/
import Derived.Test.YtnakaabnjelffaaGreatOfInject24
import Derived.Test.YtnakaabnjelffaaGreatOfInject25
import Derived.Test.YtnakaabnjelffaaGreatOfInject17
import Derived.Test.YtnakaabnjelffaaGreatOfInject18
import Derived.Test.YtnakaabnjelffaaGreatOfInject23
import Derived.Test.YtnakaabnjelffaaGreatOfInject20
namespace Go.Proofs.YtnakaabnjelffaaGreat
set_option maxRecDepth 100000
set_option maxHeartbeats 8000000
section
open Go.RowKit

def A0 (g:TM):Tr:=Bw g.1.length g
def Dq (T:Tr) (m:Int × Int × Int):Tr:=
 if okT T=true/\AK m.1 m.2.1 m.2.2=true/\¬m.1=4 then (if okT (A0 (Ae (Ag T) T [m]))=true then A0 (Ae (Ag T) T [m]) else T) else T
def Dp (T:Tr):Tr:=if okT T=true then (if okT (A0 (An (Ag T) T))=true then A0 (An (Ag T) T) else T) else T

theorem Dt {T:Tr} (h:okT T=true):shT (Ag T) T/\Ag T<=7/\wt (Ag T) T+2<=49152:=by
 have h0:Ag T≠0:=by
  unfold okT at h;have:=of_decide_eq_true h
  omega
 have h1:shT (Ag T) T:=Du h0
 have h2:Ag T<=7:=G7 _ _ _ _
 refine⟨h1,h2,Nat.le_trans (Yf _ _ h1) ?_⟩
 have:4^Ag T<=4^7:=Nat.pow_le_pow_right (by decide) h2
 omega

theorem JQ:∀(e:Nat) (T:Tr),shT e T->∀n,e<=n->Az n T=Az e T
 |0,_,h,_,_=>h.elim
 |e+1,T,h,n,hn=>by
  cases n with
  |zero=>omega
  |succ n=>
   have hk:T.kids.map (Az n)=T.kids.map (Az e):=by
    rcases h with⟨_,_,_,_,h,_⟩|⟨_,_,_,_,_,_,h⟩
    ·rw[h];rfl
    ·exact List.map_congr_left fun t ht=>JQ e t (h t ht) n (by omega)
   show T.pairs.length+(T.cuts.length+(T.kids.length+(T.kids.map (Az n)).sum+T.buf.length))=T.pairs.length+(T.cuts.length+(T.kids.length+(T.kids.map (Az e)).sum+T.buf.length))
   rw[hk]
theorem JC {e:Nat} {T:Tr} (h:shT e T) {n:Nat} (hn:e<=n):Az n T<=7*wt e T:=by
 rw[JQ e T h n hn]
 have:=Ts e T h
 omega
theorem AD.down:∀ {e n:Nat} {w:World} {F:Nat->Prop} {x:TV} {T:Tr},shT e T->AD n w F x T->AD e w F x T
 |0,_,_,_,_,_,h,_=>h.elim
 |_+1,0,_,_,_,_,_,h=>h.elim
 |e+1,n+1,w,F,x,T,hs,⟨h1,h2,h3,h4,h5,xs,K,k1,k2,k3,k4,k5⟩=>by
  refine⟨h1,h2,h3,h4,h5,xs,K,k1,k2,fun i hi=> ?_,k4,k5⟩
  rcases hs with⟨_,_,_,_,h,_⟩|⟨_,_,_,_,_,_,h⟩
  ·rw[k1,h] at hi;exact absurd hi (Nat.not_lt_zero _)
  ·exact AD.down (h _ (Bd (by omega))) (k3 i hi)

theorem Vw {d:Nat} {T:Tr} {ms:ML} (hs:shT d T) (hp:0<ms.length):∃e,e<=d+(Ae d T ms).1.length/\shT e (A0 (Ae d T ms))/\wt e (A0 (Ae d T ms))<=wt d T+ms.length:=by
 obtain⟨h1,h2⟩:=Bh d T ms hs hp
 obtain⟨e,_,e2,e3,e4⟩:=Ke _ d (Ae d T ms) h1 (Nat.le_refl _)
 exact⟨e,e2,e3,Nat.le_trans e4 h2⟩
theorem LZ {d:Nat} {T:Tr} (hs:shT d T):∃e,e<=d+(An d T).1.length/\shT e (A0 (An d T))/\wt e (A0 (An d T))<=wt d T:=by
 obtain⟨h1,h2⟩:=Fp d T hs
 obtain⟨e,_,e2,e3,e4⟩:=Ke _ d (An d T) h1 (Nat.le_refl _)
 exact⟨e,e2,e3,Nat.le_trans e4 h2⟩
theorem Ty {T:Tr} (h:okT T=true) (m:Int × Int × Int):okT (Dq T m)=true:=by
 unfold Dq;split
 ·split
  ·assumption
  ·exact h
 ·exact h
theorem Ua {T:Tr} (h:okT T=true):okT (Dp T)=true:=by
 rw[Dp,if_pos h]
 split
 ·assumption
 ·exact h
end
section
open Go.RowKit

def He (w:World) (B:Nat) (A:Array Value):Prop:=w.heap[B]? =some (.cells A 31 (0,0))
theorem He.step {u w' :World} {B:Nat} {A:Array Value} (h:He u B A) (hb:Below u.heap.size u w'):He w' B A:=(hb.block B (Array.getElem?_eq_some_iff.1 h).1).trans h
theorem He.three {u:World} {B:Nat} {x0 x1 x2:Value} (h:He u B #[x0,x1,x2]):u.cell? ⟨B,0,none⟩=some x0/\u.cell? ⟨B,1,none⟩=some x1/\u.cell? ⟨B,2,none⟩=some x2:=
 ⟨by rw[cell_of_row u B 0 _ 31 (0,0) h];rfl,by rw[cell_of_row u B 1 _ 31 (0,0) h];rfl,by rw[cell_of_row u B 2 _ 31 (0,0) h];rfl⟩
theorem Yl (args:Array Value) (w:World):(callFunc 31 args).run Tryz.prog w= .ok (.enter 31 args) w:=by go_simp
theorem Yk (args:Array Value) (w:World):(callFunc 30 args).run Tryz.prog w= .ok (.enter 30 args) w:=by go_simp
theorem Yi (args:Array Value) (w:World):(callFunc 29 args).run Tryz.prog w= .ok (.enter 29 args) w:=by go_simp

structure In4 (w:World) (cs:List Value) (m:Array Value) (V:World):Prop where
 b:Below w.heap.size w V
 t:Bx V w.heap.size cs
 m:He V (w.heap.size+1) m
 r:Bx V (w.heap.size+2) zcs
theorem In4.step {w V u:World} {cs:List Value} {m:Array Value} (h:In4 w cs m V) (k:Below V.heap.size V u):In4 w cs m u:=⟨Below.and h.b k,h.t.step k,h.m.step k,h.r.step k⟩
theorem In4.start (w:World) {cs:List Value} (h:cs.length=5) (m:Array Value):In4 w cs m (((w.alloc (.cells cs.toArray 29)).alloc (.cells m 31)).alloc (.cells zcs.toArray 29)):=by
 have h2:=Below.and (al1 w (.cells cs.toArray 29)) (al1 _ (.cells m 31))
 have h3:He ((w.alloc (.cells cs.toArray 29)).alloc (.cells m 31)) (w.heap.size+1) m:=by
  have:=heap_alloc_new (w.alloc (.cells cs.toArray 29)) (.cells m 31)
  rwa [World.size_alloc] at this
 have h4:Bx (((w.alloc (.cells cs.toArray 29)).alloc (.cells m 31)).alloc (.cells zcs.toArray 29)) (w.heap.size+2) zcs:=by
  have:=Bx.start ((w.alloc (.cells cs.toArray 29)).alloc (.cells m 31)) (cs:=zcs) rfl
  rwa [World.size_alloc,World.size_alloc] at this
 exact⟨Below.and h2 (al1 _ _),((Bx.start w h).step (al1 _ _)).step (al1 _ _),h3.step (al1 _ _),h4⟩

theorem Ig (n:Nat) (x:TV) (T:Tr) (o k v:Int) (w:World) (ht:AO n w x T) (hsz:Az n T<=1099511627776) :
  Calls Tryz.prog 8 #[x.val, .agg #[.int .i64 o, .int .i64 k, .int .i64 v]] w fun e w' =>∃(y:TV) (N:Nat),e= .returned y.val/\AD N w' (fun g=>w.heap.size<=g) y (Dq T (o,k,v))/\Below w.heap.size w w' :=by
 have HO:Hid (∀u,Below w.heap.size w u->Calls Tryz.prog 10 #[.agg x.cells.toArray] u fun e w' =>e= .returned (.bool (okT T))/\Below u.heap.size u w'):=fun u h=>Dk n x T u (ht.below h) hsz
 have HC:Hid (∀u,Below w.heap.size w u->Calls Tryz.prog 29 #[.agg x.cells.toArray] u fun e w' =>∃y:TV,e= .returned y.val/\AD n w' (fun g=>u.heap.size<=g) y T/\Below u.heap.size u w'):=fun u h=>GY n x T u (ht.below h) hsz
 have I0:=hid (In4.start w x.cells_len #[.int .i64 o, .int .i64 k, .int .i64 v])
 show Calls Tryz.prog 8 #[.agg x.cells.toArray, .agg #[.int .i64 o, .int .i64 k, .int .i64 v]] w _
 clear ht;generalize x.cells=cs at *
 go_enter Tryz.func8,Tryz.ntmps8
 go_upto_region 1 with fail
 refine Cj (In4 w cs #[.int .i64 o, .int .i64 k, .int .i64 v]) I0.out ?_
 rintro V IV
 clear I0;have I:=hid IV
 clear IV;go_cut [18] (fun s wx=>∃b:Bool,s= .bool b/\Hid (b= !(okT T&&(AK o k v&& !decide (o=4))))/\Hid (In4 w cs #[.int .i64 o, .int .i64 k, .int .i64 v] wx))
 case first=>
  go_wp2_with (refine ldT rfl rfl _ rfl w.heap.size rfl cs I.out.t ?_)
  refine Calls.mono (HO.out _ I.out.b) ?_
  rintro e w1 ⟨rfl,b1⟩
  have I1:=hid (I.out.step b1)
  clear b1 I
  cases hok:okT T
  ·go_wp2_with fail;go_meet
   case rel=>exact⟨_,rfl,by show _=_;simp[hok],I1.out⟩
  ·obtain⟨j0,j1,j2⟩:=I1.out.m.three
   go_wp2_with fail;refine Calls.mono (Cm o k v w1) ?_
   rintro e w2 ⟨rfl,b2⟩
   have I2:=hid (I1.out.step b2)
   clear b2 I1 j0 j1 j2;obtain⟨j0,j1,j2⟩:=I2.out.m.three
   cases hmo:AK o k v
   ·go_wp2_with fail;go_meet
    case rel=>exact⟨_,rfl,by show _=_;simp[hok,hmo],I2.out⟩
   ·by_cases ho4:o=4
    ·have h4:(o==4)=true:=by simp[ho4]
     have H4:=hid ho4
     clear ho4;go_wp2_with fail;go_meet
     case rel=>exact⟨_,rfl,by show _=_;simp[hok,H4.out],I2.out⟩
    ·have h4:(o==4)=false:=by simp[ho4]
     have H4:=hid ho4
     clear ho4;go_wp2_with fail;go_meet
     case rel=>exact⟨_,rfl,by show _=_;simp[hok,hmo,H4.out],I2.out⟩
 case rest=>
  obtain⟨b,rfl,HB,I⟩:=hcut
  cases b
  ·have hb:=HB.out
   simp only[Bool.false_eq,Bool.not_eq_false',Bool.and_eq_true,Bool.not_eq_true',decide_eq_false_iff_not] at hb
   obtain⟨hok,hmo,ho4⟩:=hb
   have EI:Hid (Dq T (o,k,v)=if okT (A0 (Ae (Ag T) T [(o,k,v)]))=true then A0 (Ae (Ag T) T [(o,k,v)]) else T):=by show _=_;rw[Dq,if_pos ⟨hok,hmo,ho4⟩]
   obtain⟨hsh,hd7,hwt⟩:=Dt hok
   obtain⟨e,he1,he2,he3⟩:=Vw (ms:=[(o,k,v)]) hsh (by simp)
   obtain⟨hmm,hmw⟩:=Bh _ _ [(o,k,v)] hsh (by simp)
   simp only[List.length_cons,List.length_nil] at he3 hmw
   have SZ:=hid (Nat.le_trans (JC he2 he1) (show _<=1099511627776 by omega))
   have SH:=hid hsh
   have HG:=hid (fun F y vm c ht hr=>JU (Ag T) F y T vm [(o,k,v)] c ht hr hsh (by simp) (by simp only[List.length_cons,List.length_nil];omega))
   have HR:=hid (fun F v1 v2 c h1 h2=>Np (Ag T) F v1 v2 (Ae (Ag T) T [(o,k,v)]) c h1 h2 hmm (by omega))
   change Hid (Az (Ag T+(Ae (Ag T) T [(o,k,v)]).1.length) (A0 (Ae (Ag T) T [(o,k,v)]))<=_) at SZ
   clear hsh hd7 hwt he1 he2 he3 hmm hmw HB hok hmo ho4;go_wp2_with fail;go_cut [5] (fun s5 wx=>∃(N:Nat) (r:TV),s5= .pointer (some ⟨N,0,none⟩)/\Hid (Bx wx N r.cells)/\Hid (AO (Ag T+(Ae (Ag T) T [(o,k,v)]).1.length) wx r (A0 (Ae (Ag T) T [(o,k,v)])))/\Hid (In4 w cs #[.int .i64 o, .int .i64 k, .int .i64 v] wx))
   case first=>
    have KP:=hid (fun u (hu:Ltr wc.drew u)=>I.out.step (Below.and (Below.refl _ wc).drew hu))
    refine AF (fun u=>Bx u w.heap.size cs/\He u (w.heap.size+1) #[.int .i64 o, .int .i64 k, .int .i64 v]) [_,_,_,_,_,_,_] _ rfl (by kernel_rfl) (by kernel_rfl) ?_
    have hS:=hid (fun u hu=>And.intro (KP.out u hu).t (KP.out u hu).m)
    generalize wc.drew=wd at *
    refine tk 0 (oi:=⟨_,_,_,_,_,_⟩) (v:= .agg cs.toArray) rfl (by kernel_rfl) (fun _ _ _ h=>h) (yieldsIf_load_mid rfl _ _ rfl w.heap.size 0 rfl cs _ (fun u h=>h.1.rg) Tryz.underlying29 rfl (BG I.out.t.2)) (hS.out _ (Ltr.refl _)) ?_
    refine tk 2 (oi:=⟨_,_,_,_,_,_⟩) (v:= .agg #[.int .i64 o, .int .i64 k, .int .i64 v]) rfl (by kernel_rfl) (fun _ _ _ h=>h) (Or.inl ⟨by rfl,fun u hu=> ?_⟩) (hS.out _ (Ltr.refl _)) ?_
    ·obtain⟨j0,j1,j2⟩:=hu.2.three
     go_simp
    try simp only[Act.put,sA,sB,sC]
    refine JA [(1,none),(3,some fun u=>(.slice (some ⟨u.heap.size,0,none⟩) 1 1,u.alloc (.cells #[.int .i64 o, .int .i64 k, .int .i64 v] 31))),(4,none),(5,none),(6,some fun u=>(.pointer (some ⟨u.heap.size,0,none⟩),u.alloc (.cells zcs.toArray 29)))] rfl (by kernel_rfl) hS.out ?_ ?_
    ·intro f g hf op ho u _;simp only[List.mem_cons,Prod.mk.injEq,reduceCtorEq,and_false,false_or,List.not_mem_nil,or_false,Option.some.injEq] at hf
     rcases hf with⟨rfl,rfl⟩|⟨rfl,rfl⟩<;>(cases ho;exact⟨by go_simp<;>rfl,al1 _ _⟩)
    refine CW.op (o:=⟨_,_,_,_,_,_⟩) rfl (fun u1 l1 K hK=> ?_)
    refine Be 29 [.tmp 21] #[29] rfl Yi [.agg cs.toArray] rfl (HC.out u1 (KP.out _ l1).b) ?_
    rintro e x1 ⟨y,rfl,ty,b1⟩
    refine⟨_,rfl,hK.out _ _ b1 ?_⟩
    clear hK K;simp only[Act.put,sA,sB,sC]
    refine CW.flt rfl (fun u2 u0 l2 _ m0 _=> ?_)
    simp only[Act.put,sA,sB,sC]
    have OT:=hid (((AD.down SH.out ty).treeF.lt).below l2)
    have RM:=hid ((Row.laid u0 (Al [(o,k,v)]) 31 _ rfl).below m0)
    clear ty;refine CW.op (o:=⟨_,_,_,_,_,_⟩) rfl (fun u4 l4 K hK=> ?_)
    refine Be 31 [.tmp 22, .tmp 24] #[29,27] rfl Yl [y.val, .slice (some ⟨u0.heap.size,0,none⟩) 1 1] rfl (HG.out _ _ _ _ (OT.out.below l4) (RM.out.below l4)) ?_
    rintro e x4 ⟨v1,v2,rfl,t1,t2,b4⟩
    refine⟨_,rfl,hK.out _ _ b4 ?_⟩
    clear hK K;simp only[Act.put,sA,sB,sC]
    have GT:=hid (And.intro t1.lt (t2.lt (fun h e=>by have:=Bk (Ae (Ag T) T [(o,k,v)]).2;rw[e] at this;simp at this;omega)))
    clear t1 t2 OT RM;refine CW.op (o:=⟨_,_,_,_,_,_⟩) rfl (fun u5 l5 K hK=> ?_)
    refine Be 30 [.tmp 25] #[58] rfl Yk [.agg #[v1,v2]] rfl (HR.out _ _ _ _ (GT.out.1.below l5) (GT.out.2.below l5)) ?_
    rintro e x5 ⟨r,rfl,t3,b5⟩
    refine⟨_,rfl,hK.out _ _ b5 ?_⟩
    clear hK K;simp only[Act.put,sA,sB,sC]
    have TR:=hid t3.lt
    clear t3 GT;refine CW.flt rfl (fun u6 n0 l6 w6 m6 ap=> ?_)
    simp only[Act.put,sA,sB,sC]
    refine CW.last (fun u7 l7 K hK=> ?_)
    have BX:=hid ((Bx.start n0 (cs:=zcs) rfl).step (m6.trans l7))
    have RF:=hid (TR.out.below (l6.trans l7))
    have IN:=hid (KP.out u7 ((w6.trans (al1 _ _)).trans (m6.trans l7)))
    have NN:Hid (w.heap.size+2<n0.heap.size):=Nat.lt_of_lt_of_le (KP.out _ (Ltr.refl _)).r.lt w6.size
    have AP:=hid ap
    clear TR ap;refine wp_store_mid 29 _ _ rfl n0.heap.size 0 r.cells.toArray rfl rfl (BX.out.there rfl) (BG r.cells_len) RF.out.treeAt.ones (hK.out _ _ ?_)
    clear hK K;have hc:Chg (fun b=>b=n0.heap.size) u7 (u7.setCells n0.heap.size 0 r.cells):=Chg.setCells (F:=fun b=>b=n0.heap.size) (g:=n0.heap.size) (fun _=>rfl) r.cells 0 u7 (Chg.refl _ _)
    go_wp2_with fail;go_meet
    case rel=>
     refine⟨n0.heap.size,r,rfl,BX.out.set rfl,(RF.out.chg hc fun b hb e=> ?_).treeAt,IN.out.b.trans (hc.below (fun g _ e=>by have:=NN.out;omega) IN.out.b.size),⟨Bf IN.out.t.1 hc (fun (e:_=_)=>by have:=NN.out;omega),IN.out.t.2⟩,Bf IN.out.m hc (fun (e:_=_)=>by have:=NN.out;omega),⟨Bf IN.out.r.1 hc (fun (e:_=_)=>by have:=NN.out;omega),IN.out.r.2⟩⟩
     have ap:=AP.out
     simp only[List.mem_cons,List.not_mem_nil,or_false,forall_eq_or_imp,forall_eq,World.size_alloc] at ap
     obtain⟨a1,a2,a3,a4⟩:=ap
     subst e;omega
   case rest=>
    obtain⟨N,r,rfl,BN,TN,I⟩:=hcut
    go_wp2_with (refine ldT rfl rfl _ rfl N rfl r.cells BN.out ?_)
    refine Calls.mono (Dk _ r _ _ TN.out SZ.out) ?_
    rintro e w1 ⟨rfl,b1⟩
    have I1:=hid (I.out.step b1)
    have BN1:=hid (BN.out.step b1)
    have TN1:=hid (TN.out.below b1)
    clear b1 I BN TN
    cases hr:okT (A0 (Ae (Ag T) T [(o,k,v)]))
    ·have ED:Dq T (o,k,v)=T:=by rw[EI.out,hr];rfl
     go_wp2_with (refine ldT rfl rfl _ rfl w.heap.size rfl cs I1.out.t ?_)
     refine Calls.mono (HC.out _ I1.out.b) ?_
     rintro e w2 ⟨y,rfl,TY,b2⟩
     obtain⟨f1,f2,f3⟩:=C9 I1.out.r (by omega) I1.out.b b2 TY
     have R1:=hid (And.intro (I1.out.r.step b2) TY.treeF.treeAt.ones)
     have FF:=hid (And.intro f1 (And.intro f2 f3))
     clear f1 f2 f3 TY;go_wp2_with (refine stT rfl rfl _ _ rfl (w.heap.size+2) y rfl rfl R1.out.1 R1.out.2 ?_)
     generalize w2.setCells (w.heap.size+2) 0 y.cells=WF at *
     exact⟨rfl,_,Lm Tryz.results8 _ WF _ y rfl FF.out.1,⟨y,n,rfl,by rw[ED];exact FF.out.2.1,FF.out.2.2⟩⟩
    ·have ED:Dq T (o,k,v)=A0 (Ae (Ag T) T [(o,k,v)]):=by rw[EI.out,hr];rfl
     go_wp2_with (refine ldT rfl rfl _ rfl N rfl r.cells BN1.out ?_)
     refine Calls.mono (GY _ r _ _ TN1.out SZ.out) ?_
     rintro e w2 ⟨y,rfl,TY,b2⟩
     obtain⟨f1,f2,f3⟩:=C9 I1.out.r (by omega) I1.out.b b2 TY
     have R1:=hid (And.intro (I1.out.r.step b2) TY.treeF.treeAt.ones)
     have FF:=hid (And.intro f1 (And.intro f2 f3))
     clear f1 f2 f3 TY;go_wp2_with (refine stT rfl rfl _ _ rfl (w.heap.size+2) y rfl rfl R1.out.1 R1.out.2 ?_)
     generalize w2.setCells (w.heap.size+2) 0 y.cells=WF at *
     exact⟨rfl,_,Lm Tryz.results8 _ WF _ y rfl FF.out.1,⟨y,_,rfl,by rw[ED];exact FF.out.2.1,FF.out.2.2⟩⟩
  ·have ED:Dq T (o,k,v)=T:=by
    rw[Dq,if_neg]
    intro h;have:=HB.out
    simp[h.1,h.2.1,h.2.2] at this
   go_wp2_with (refine ldT rfl rfl _ rfl w.heap.size rfl cs I.out.t ?_)
   refine Calls.mono (HC.out _ I.out.b) ?_
   rintro e w1 ⟨y,rfl,TY,b1⟩
   obtain⟨f1,f2,f3⟩:=C9 I.out.r (by omega) I.out.b b1 TY
   have R1:=hid (And.intro (I.out.r.step b1) TY.treeF.treeAt.ones)
   have FF:=hid (And.intro f1 (And.intro f2 f3))
   clear f1 f2 f3 TY;go_wp2_with (refine stT rfl rfl _ _ rfl (w.heap.size+2) y rfl rfl R1.out.1 R1.out.2 ?_)
   generalize w1.setCells (w.heap.size+2) 0 y.cells=WF at *
   exact⟨rfl,_,Lm Tryz.results8 _ WF _ y rfl FF.out.1,⟨y,n,rfl,by rw[ED];exact FF.out.2.1,FF.out.2.2⟩⟩
end
section
open Go.RowKit

structure In2 (w:World) (cs:List Value) (V:World):Prop where
 b:Below w.heap.size w V
 t:Bx V w.heap.size cs
 r:Bx V (w.heap.size+1) zcs
theorem In2.step {w V u:World} {cs:List Value} (h:In2 w cs V) (k:Below V.heap.size V u):In2 w cs u:=⟨Below.and h.b k,h.t.step k,h.r.step k⟩
theorem In2.start (w:World) {cs:List Value} (h:cs.length=5):In2 w cs ((w.alloc (.cells cs.toArray 29)).alloc (.cells zcs.toArray 29)):=by
 have h4:=Bx.start (w.alloc (.cells cs.toArray 29)) (cs:=zcs) rfl
 rw[World.size_alloc] at h4
 exact⟨al2 _ _ _,(Bx.start w h).step (al1 _ _),h4⟩

theorem II (n:Nat) (x:TV) (T:Tr) (w:World) (ht:AO n w x T) (hsz:Az n T<=1099511627776) :
  Calls Tryz.prog 12 #[x.val] w fun e w' =>∃(y:TV) (N:Nat),e= .returned y.val/\AD N w' (fun g=>w.heap.size<=g) y (Dp T)/\Below w.heap.size w w' :=by
 have HO:Hid (∀u,Below w.heap.size w u->Calls Tryz.prog 10 #[.agg x.cells.toArray] u fun e w' =>e= .returned (.bool (okT T))/\Below u.heap.size u w'):=fun u h=>Dk n x T u (ht.below h) hsz
 have HC:Hid (∀u,Below w.heap.size w u->Calls Tryz.prog 29 #[.agg x.cells.toArray] u fun e w' =>∃y:TV,e= .returned y.val/\AD n w' (fun g=>u.heap.size<=g) y T/\Below u.heap.size u w'):=fun u h=>GY n x T u (ht.below h) hsz
 have I0:=hid (In2.start w x.cells_len)
 show Calls Tryz.prog 12 #[.agg x.cells.toArray] w _
 clear ht;generalize x.cells=cs at *
 go_enter Tryz.func12,Tryz.ntmps12
 go_upto_region 1 with fail
 refine Cj (In2 w cs) I0.out ?_
 rintro V IV
 clear I0;have I:=hid IV
 clear IV;go_wp2_with (refine ldT rfl rfl _ rfl w.heap.size rfl cs I.out.t ?_)
 refine Calls.mono (HO.out _ I.out.b) ?_
 rintro e w1 ⟨rfl,b1⟩
 have I1:=hid (I.out.step b1)
 clear b1 I HO
 cases hok:okT T
 ·have ED:Dp T=T:=by rw[Dp,if_neg (by rw[hok];decide)]
  go_wp2_with (refine ldT rfl rfl _ rfl w.heap.size rfl cs I1.out.t ?_)
  refine Calls.mono (HC.out _ I1.out.b) ?_
  rintro e w2 ⟨y,rfl,TY,b2⟩
  obtain⟨f1,f2,f3⟩:=C9 I1.out.r (by omega) I1.out.b b2 TY
  have R1:=hid (And.intro (I1.out.r.step b2) TY.treeF.treeAt.ones)
  have FF:=hid (And.intro f1 (And.intro f2 f3))
  clear f1 f2 f3 TY;go_wp2_with (refine stT rfl rfl _ _ rfl (w.heap.size+1) y rfl rfl R1.out.1 R1.out.2 ?_)
  generalize w2.setCells (w.heap.size+1) 0 y.cells=WF at *
  exact⟨rfl,_,Lm Tryz.results12 _ WF _ y rfl FF.out.1,⟨y,n,rfl,by rw[ED];exact FF.out.2.1,FF.out.2.2⟩⟩
 ·obtain⟨hsh,hd7,hwt⟩:=Dt hok
  obtain⟨e,he1,he2,he3⟩:=LZ hsh
  obtain⟨hmo,hmw⟩:=Fp _ _ hsh
  have ED:=hid (show Dp T=if okT (A0 (An (Ag T) T))=true then A0 (An (Ag T) T) else T by rw[Dp,if_pos hok])
  have HD:=hid (fun u y (w2:World) (ty:AD n w2 (fun g=>u<=g) y T)=>OI (Ag T) (fun g=>u<=g) y T w2 (AD.down hsh ty).treeF hsh (by omega))
  have HR:=hid (fun F v1 v2 c h1 h2=>Np (Ag T) F v1 v2 (An (Ag T) T) c h1 h2 hmo (by omega))
  have SZ:=hid (Nat.le_trans (JC he2 he1) (show _<=1099511627776 by omega))
  change Hid (Az (Ag T+(An (Ag T) T).1.length) (A0 (An (Ag T) T))<=_) at SZ
  clear hsh hd7 hwt he1 he2 he3 hmo hmw;go_wp2_with (refine ldT rfl rfl _ rfl w.heap.size rfl cs I1.out.t ?_)
  refine Calls.mono (HC.out _ I1.out.b) ?_
  rintro e w2 ⟨y,rfl,TY,b2⟩
  have I2:=hid (I1.out.step b2)
  have HD2:=hid (HD.out _ y w2 TY)
  clear TY b2 HD;go_wp2_with fail;refine Calls.mono HD2.out ?_
  rintro e w3 ⟨v1,v2,rfl,T3,R3,b3⟩
  have I3:=hid (I2.out.step b3)
  have HR3:=hid (HR.out _ v1 v2 w3 T3 R3)
  clear T3 R3 b3 HD2 HR I1 I2;go_wp2_with fail;refine Calls.mono HR3.out ?_
  rintro e w4 ⟨r,rfl,T4,b4⟩
  change Aq _ w4 _ r (A0 (An (Ag T) T)) at T4
  generalize A0 (An (Ag T) T)=R at *
  have I4:=hid (I3.out.step b4)
  have B5:=hid (Bx.start w4 r.cells_len)
  have A5:=hid (T4.treeAt.below (al1 w4 (.cells r.cells.toArray 29)))
  have I5:=hid (I4.out.step (al1 w4 (.cells r.cells.toArray 29)))
  have HO5:=hid (Dk _ r _ _ A5.out SZ.out)
  obtain⟨ra1,ra2,ra3,ra4,rq1,rq2,rq3,rq4,hyr⟩:=T4.treeAt.shape
  subst hyr;clear T4 b4 HR3 I3 I4;go_wp2_with fail;refine Calls.mono HO5.out ?_
  rintro e w6 ⟨rfl,b6⟩
  have I6:=hid (I5.out.step b6)
  have B6:=hid (B5.out.step b6)
  have A6:=hid (A5.out.below b6)
  clear I5 B5 A5 b6 HO5
  cases hr:okT (R)
  ·have ED2:Dp T=T:=by rw[ED.out,hr];rfl
   go_wp2_with (refine ldT rfl rfl _ rfl w.heap.size rfl cs I6.out.t ?_)
   refine Calls.mono (HC.out _ I6.out.b) ?_
   rintro e w7 ⟨z,rfl,TY,b7⟩
   obtain⟨f1,f2,f3⟩:=C9 I6.out.r (by omega) I6.out.b b7 TY
   have R1:=hid (And.intro (I6.out.r.step b7) TY.treeF.treeAt.ones)
   have FF:=hid (And.intro f1 (And.intro f2 f3))
   clear f1 f2 f3 TY;go_wp2_with (refine stT rfl rfl _ _ rfl (w.heap.size+1) z rfl rfl R1.out.1 R1.out.2 ?_)
   generalize w7.setCells (w.heap.size+1) 0 z.cells=WF at *
   exact⟨rfl,_,Lm Tryz.results12 _ WF _ z rfl FF.out.1,⟨z,n,rfl,by rw[ED2];exact FF.out.2.1,FF.out.2.2⟩⟩
  ·have ED2:Dp T=R:=by rw[ED.out,hr];rfl
   go_wp2_with (refine ldT rfl rfl _ rfl w4.heap.size rfl _ B6.out ?_)
   refine Calls.mono (GY _ (⟨_, .slice ra1 _ rq1, .slice ra2 _ rq2, .slice ra3 _ rq3, .slice ra4 _ rq4⟩:TV) _ _ A6.out SZ.out) ?_
   rintro e w7 ⟨z,rfl,TY,b7⟩
   obtain⟨f1,f2,f3⟩:=C9 I6.out.r (by omega) I6.out.b b7 TY
   have R1:=hid (And.intro (I6.out.r.step b7) TY.treeF.treeAt.ones)
   have FF:=hid (And.intro f1 (And.intro f2 f3))
   clear f1 f2 f3 TY;go_wp2_with (refine stT rfl rfl _ _ rfl (w.heap.size+1) z rfl rfl R1.out.1 R1.out.2 ?_)
   generalize w7.setCells (w.heap.size+1) 0 z.cells=WF at *
   exact⟨rfl,_,Lm Tryz.results12 _ WF _ z rfl FF.out.1,⟨z,_,rfl,by rw[ED2];exact FF.out.2.1,FF.out.2.2⟩⟩
end
section
open Go.RowKit

theorem Gc {P:Program} {ops:Array Oper} {o:Oper} {a:Act} {K:Act->World->Prop} {Q:Exit->Act->World->Prop} {E:Prop} {w:World} {R:Ending->World->Prop} (hgd:o.guard=none) (f:FuncId) (xs:List Operand) (ats:Array TypeId)
  (ho:o.op= .call { callee:= .value (.func f),args:=xs.toArray,argTypes:=ats }) (hrun:∀args w,(callFunc f args).run P w= .ok (.enter f args) w) (args:List Value) (he:xs.map a.eval=args)
  (h:Calls P f args.toArray w R) (hk:∀e w',R e w' ->∃v,e= .returned v/\K (a.put o.dst v) w') :
  if Region.wanted o (yielded ops a.tmps)=true then Oper.wp P o a w K Q else E:=by
 have hw:Region.wanted o (yielded ops a.tmps)=true:=by simp[Region.wanted,hgd]
 rw[if_pos hw]
 have ef:a.eval (.func f)= .func (.func f) #[] #[]:=rfl
 have hx:execOp a.eval o=callFunc f args.toArray:=by
  unfold execOp;simp[ho,resolve,Deferred.ofValue,invoke,ef,he]
 unfold Oper.wp
 rw[hx,hrun,Oper.upon_enter]
 refine Calls.mono h ?_
 intro e w' hr;obtain⟨v,rfl,hk⟩:=hk e w' hr
 exact hk

theorem Zb (args:Array Value) (w:World):(callFunc 8 args).run Tryz.prog w= .ok (.enter 8 args) w:=by go_simp
theorem Yy (args:Array Value) (w:World):(callFunc 44 args).run Tryz.prog w= .ok (.enter 44 args) w:=by go_simp
end
section
open Go.RowKit

theorem EA.chgC {w:World} {C R M:Nat} {o k v:Int} {W W' :World} (h:EA w C R M o k v W) (hc:Cur W' C) (hg:Chg (fun g=>g=C) W W'):EA w C R M o k v W' :=by
 obtain⟨a,b,c,hR⟩:=h.hR
 have h1:=h.nC;have h2:=h.rR;have h3:=h.rM
 exact⟨hc,h.chg.trans hg (fun _ _ e=>e),⟨a,b,c,Bf hR hg (by omega)⟩,Bf h.hM hg (by omega),h.rR,h.rM,h.ne,h.nC⟩
theorem EA.alloc {w:World} {C R M:Nat} {o k v:Int} {W:World} (h:EA w C R M o k v W) (x:Obj):EA w C R M o k v (W.alloc x):=by
 obtain⟨a,b,c,hR⟩:=h.hR
 exact⟨h.cur.alloc x,h.chg.alloc x,⟨a,b,c,by rw[Below.heap_alloc _ _ _ (Array.getElem?_eq_some_iff.1 hR).1];exact hR⟩,by rw[Below.heap_alloc _ _ _ (Array.getElem?_eq_some_iff.1 h.hM).1];exact h.hM,h.rR,h.rM,h.ne,h.nC⟩
theorem EA.set {w:World} {C R M:Nat} {o k v o' k' v' :Int} {W:World} (h:EA w C R M o k v W) (j:Nat) (x:Value) (hx:(W.setCell ⟨M,j,none⟩ x).heap[M]? =some (.cells #[.int .i64 o', .int .i64 k', .int .i64 v'] 31 (0,0))):EA w C R M o' k' v' (W.setCell ⟨M,j,none⟩ x):=by
 obtain⟨a,b,c,hR⟩:=h.hR
 have h1:=h.nC;have h2:=h.rR;have h3:=h.rM
 have cM:Chg (fun g=>g=M) W (W.setCell ⟨M,j,none⟩ x):=Chg.setAt (F:=fun g=>g=M) (Chg.refl _ _) _ _ rfl _
 exact⟨h.cur.chg cM (fun g e=>by omega),h.chg.trans cM (fun g hg e=>by omega),⟨a,b,c,Bf hR cM h.ne⟩,hx,h.rR,h.rM,h.ne,h.nC⟩

theorem IU (C:Nat) (w:World) (hc:Cur w C) :
  Calls Tryz.prog 20 #[.pointer (some ⟨C,0,none⟩)] w fun e w' =>∃o k v:Int,e= .returned (.agg #[.int .i64 o, .int .i64 k, .int .i64 v])/\Cur w' C/\Chg (fun g=>g=C) w w' :=by
 have hCw:=hc.lt
 have CU:Hid (Cur w C):=hc
 clear hc;go_enter Tryz.func20,Tryz.ntmps20
 go_wp2_with fail;refine(IL C _ (CU.out.alloc _)).mono ?_
 rintro e w1 ⟨o,k,v,rfl,c1,g1⟩
 have R1:=Bf (heap_alloc_new w (.cells #[.int .i64 0, .int .i64 0, .int .i64 0] 31)) g1 (by omega)
 have hsz:w.heap.size<w1.heap.size:=(Array.getElem?_eq_some_iff.1 R1).1
 have E0:Hid (EA w C w.heap.size w1.heap.size o k v (w1.alloc (.cells #[.int .i64 o, .int .i64 k, .int .i64 v] 31))):=
  ⟨c1.alloc _,(((Chg.refl _ _).alloc _).trans g1 (fun _ _ e=>e)).alloc _,⟨_,_,_,by rw[Below.heap_alloc _ _ _ hsz];exact R1⟩,heap_alloc_new _ _,Nat.le_refl _,by omega,by omega,hCw⟩
 clear c1 g1 R1;go_wp2_with fail;refine(Cz C 15 _ E0.out.cur (by decide)).mono ?_
 rintro e w2 ⟨x,rfl,hx0,hx1,_,c2,g2⟩
 have E2:Hid (EA w C w.heap.size w1.heap.size o k v w2):=E0.out.chgC c2 g2
 clear c2 g2 hx1 E0;rcases(show x=0∨x=1∨x=2∨3<=x by omega) with rfl|rfl|rfl|h3
 ·go_wp2_with fail;refine(Cz C 7 _ E2.out.cur (by decide)).mono ?_
  rintro e w3 ⟨y,rfl,hy0,hy1,_,c3,g3⟩
  have hy7:=hy1 (by decide)
  have E3:=E2.out.chgC c3 g3
  obtain⟨⟨a0,a1,a2⟩,b0,b1,b2⟩:=at3 E3.hM
  have hs:=YA (.int .i64 (y-1)) E3.hM
  have E4:=E3.set 0 _ hs
  obtain⟨⟨m0,m1,m2⟩,n0,n1,n2⟩:=at3 hs
  obtain⟨ra,rb,rc,hRR⟩:=E4.hR
  obtain⟨⟨r0,r1,r2⟩,t0,t1,t2⟩:=at3 hRR
  have FIN:Hid _:=E4.fin
  clear c3 g3 E3 hs E4 hy1 hRR;go_wp2;obtain⟨⟨k1,k2⟩,q0,q1,q2⟩:=FIN.out
  exact bodyPost_ret (v:= .agg #[.int .i64 (y-1), .int .i64 k, .int .i64 v]) (by simp[results,Tryz.results20,go_sem,q0,q1,q2]) rfl ⟨_,_,_,rfl,k1,k2⟩
 ·have hs2:w1.heap.size<w2.heap.size:=(Array.getElem?_eq_some_iff.1 E2.out.hM).1
  have hd:C≠w2.heap.size:=by have:=E2.out.cur.lt;omega
  go_wp2_with fail;refine(Ew C w2.heap.size [-1,1000] (by decide) (by decide) _ (E2.out.alloc _).cur (heap_alloc_new _ _) (fun e=>hd e.symm)).mono ?_
  rintro e w3 ⟨y,rfl,_,c3,g3⟩
  have E3:=(E2.out.alloc _).chgC c3 g3
  obtain⟨⟨a0,a1,a2⟩,b0,b1,b2⟩:=at3 E3.hM
  have hs:=YI (.int .i64 y) E3.hM
  have E4:=E3.set 1 _ hs
  obtain⟨⟨m0,m1,m2⟩,n0,n1,n2⟩:=at3 hs
  obtain⟨ra,rb,rc,hRR⟩:=E4.hR
  obtain⟨⟨r0,r1,r2⟩,t0,t1,t2⟩:=at3 hRR
  have FIN:Hid _:=E4.fin
  clear c3 g3 E3 hs E4 hRR;go_wp2;obtain⟨⟨k1,k2⟩,q0,q1,q2⟩:=FIN.out
  exact bodyPost_ret (v:= .agg #[.int .i64 o, .int .i64 y, .int .i64 v]) (by simp[results,Tryz.results20,go_sem,q0,q1,q2]) rfl ⟨_,_,_,rfl,k1,k2⟩
 ·have hs2:w1.heap.size<w2.heap.size:=(Array.getElem?_eq_some_iff.1 E2.out.hM).1
  have hd:C≠w2.heap.size:=by have:=E2.out.cur.lt;omega
  go_wp2_with fail;refine(Ew C w2.heap.size [1000000001,3] (by decide) (by decide) _ (E2.out.alloc _).cur (heap_alloc_new _ _) (fun e=>hd e.symm)).mono ?_
  rintro e w3 ⟨y,rfl,_,c3,g3⟩
  have E3:=(E2.out.alloc _).chgC c3 g3
  obtain⟨⟨a0,a1,a2⟩,b0,b1,b2⟩:=at3 E3.hM
  have hs:=YK (.int .i64 y) E3.hM
  have E4:=E3.set 2 _ hs
  obtain⟨⟨m0,m1,m2⟩,n0,n1,n2⟩:=at3 hs
  obtain⟨ra,rb,rc,hRR⟩:=E4.hR
  obtain⟨⟨r0,r1,r2⟩,t0,t1,t2⟩:=at3 hRR
  have FIN:Hid _:=E4.fin
  clear c3 g3 E3 hs E4 hRR;go_wp2;obtain⟨⟨k1,k2⟩,q0,q1,q2⟩:=FIN.out
  exact bodyPost_ret (v:= .agg #[.int .i64 o, .int .i64 k, .int .i64 y]) (by simp[results,Tryz.results20,go_sem,q0,q1,q2]) rfl ⟨_,_,_,rfl,k1,k2⟩
 ·have e0:(x==0)=false:=by rw[beq_eq_false_iff_ne];omega
  have e1:(x==1)=false:=by rw[beq_eq_false_iff_ne];omega
  have e2:(x==2)=false:=by rw[beq_eq_false_iff_ne];omega
  obtain⟨⟨m0,m1,m2⟩,n0,n1,n2⟩:=at3 E2.out.hM
  obtain⟨ra,rb,rc,hRR⟩:=E2.out.hR
  obtain⟨⟨r0,r1,r2⟩,t0,t1,t2⟩:=at3 hRR
  have FIN:Hid _:=E2.out.fin
  go_wp2;obtain⟨⟨k1,k2⟩,q0,q1,q2⟩:=FIN.out
  exact bodyPost_ret (v:= .agg #[.int .i64 o, .int .i64 k, .int .i64 v]) (by simp[results,Tryz.results20,go_sem,q0,q1,q2]) rfl ⟨_,_,_,rfl,k1,k2⟩
end
section
open Go.RowKit

theorem AD.ok8 {N:Nat} {w:World} {F:Nat->Prop} {x:TV} {T:Tr} (h:AD N w F x T) (ho:okT T=true):AD 8 w F x T:=(AD.down (Dt ho).1 h).le (by have:=(Dt ho).2.1;omega)
theorem HQ {T:Tr} (ho:okT T=true):Az 8 T<=1000000:=by
 obtain⟨h1,h2,h3⟩:=Dt ho
 exact Nat.le_trans (JC h1 (by omega)) (by omega)
def Qz:Tr:=⟨true,[],[],[],[]⟩
theorem XV:okT Qz=true:=by decide
theorem Ye (w:World) (F:Nat->Prop):AD 8 w F ⟨true, .slice none 0 0, .slice none 0 0, .slice none 0 0, .slice none 0 0⟩ Qz:=
 ⟨rfl,As.nil _ _ _ _,As.nil _ _ _ _,As.nil _ _ _ _,fun g hg=>by rcases hg with h|h|h|h<;>exact absurd h (Uj g),[],fun _ _=>False,rfl,As.nil _ _ _ _,fun i hi=>absurd hi (Nat.not_lt_zero _),fun _ _ _ h=>h.elim,fun _ _ _ _ _ h=>h.elim⟩

theorem Hu (w:World):Calls Tryz.prog 43 #[] w fun e w' =>e= .returned (.agg #[.bool true, .slice none 0 0, .slice none 0 0, .slice none 0 0, .slice none 0 0])/\Below w.heap.size w w' :=by
 go_enter Tryz.func43,Tryz.ntmps43
 go_wp2;refine bodyPost_ret (v:= .agg #[.bool true, .slice none 0 0, .slice none 0 0, .slice none 0 0, .slice none 0 0]) (by simp[results,Tryz.results43,go_sem]) rfl ⟨rfl,al1 _ _⟩

theorem Ti (a:Option Addr) (n cap:Nat) (w:World) (hn:n<=1048576):Calls Tryz.prog 87 #[.slice a n cap, .int .i64 30, .int .i64 90] w fun e w' =>∃x:Int,e= .returned (.int .i64 x)/\0<=x/\x<=90/\Below w.heap.size w w' :=by
 go_enter Tryz.func87,Tryz.ntmps87
 go_wp2
 all_goals (
  go_ret;exact⟨_,rfl,by omega,by omega,Below.refl _ _⟩)

def YX (C:Nat) (w:World) (e:Ending) (w' :World):Prop:=∃(y:TV) (T:Tr),e= .returned y.val/\okT T=true/\AD 8 w' (fun g=>w.heap.size<=g) y T/\Cur w' C/\Chg (fun g=>g=C) w w'
end
end Go.Proofs.YtnakaabnjelffaaGreat
