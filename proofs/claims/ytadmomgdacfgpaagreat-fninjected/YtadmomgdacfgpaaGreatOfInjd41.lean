/-
  The contract of the model's Inject.
-/
import Derived.Test.YtadmomgdacfgpaaGreatOfInjd38
import Derived.Test.YtadmomgdacfgpaaGreatOfInjd40
namespace Go.Proofs.YtadmomgdacfgpaaGreat
set_option maxRecDepth 100000
set_option maxHeartbeats 8000000
section
open Go.RowKit

def Kw (w:World) (B:Nat) (A:Array Value):Prop:=w.heap[B]? =some (.cells A 35 (0,0))
theorem Kw.step {u w' :World} {B:Nat} {A:Array Value} (h:Kw u B A) (hb:Below u.heap.size u w'):Kw w' B A:=(hb.block B (Array.getElem?_eq_some_iff.1 h).1).trans h
theorem Kw.three {u:World} {B:Nat} {x0 x1 x2:Value} (h:Kw u B #[x0,x1,x2]):u.cell? ⟨B,0,none⟩=some x0/\u.cell? ⟨B,1,none⟩=some x1/\u.cell? ⟨B,2,none⟩=some x2:=
 ⟨by rw[cell_of_row u B 0 _ 35 (0,0) h];rfl,by rw[cell_of_row u B 1 _ 35 (0,0) h];rfl,by rw[cell_of_row u B 2 _ 35 (0,0) h];rfl⟩

theorem Lv (n:Nat) (x:TV) (T:Tr) (o k v:Int) (w:World) (ht:AO n w x T) (hsz:AU n T<=1099511627776) :
  Calls Tryz.prog 13 #[x.val, .agg #[.int .i64 o, .int .i64 k, .int .i64 v]] w fun e w' =>∃(y:TV) (N:Nat),e= .returned y.val/\AD N w' (fun g=>w.heap.size<=g) y (Du T (o,k,v))/\Below w.heap.size w w' :=by
 obtain⟨a1,a2,a3,a4,q1,q2,q3,q4,hx⟩:=ht.shape
 subst hx;have HO:Hid (∀w1,Below w.heap.size w w1->Calls Tryz.prog 35 #[.agg #[.bool T.leaf, .slice a1 T.pairs.length q1, .slice a2 T.cuts.length q2, .slice a3 T.kids.length q3, .slice a4 T.buf.length q4]] w1 fun e w' =>e= .returned (.bool (okT T))/\Below w1.heap.size w1 w'):=fun w1 hb=>Hg n ⟨T.leaf, .slice a1 T.pairs.length q1, .slice a2 T.cuts.length q2, .slice a3 T.kids.length q3, .slice a4 T.buf.length q4⟩ T w1 (ht.below hb) hsz
 have HC:Hid (∀w1,Below w.heap.size w w1->Calls Tryz.prog 37 #[.agg #[.bool T.leaf, .slice a1 T.pairs.length q1, .slice a2 T.cuts.length q2, .slice a3 T.kids.length q3, .slice a4 T.buf.length q4]] w1 fun e w' =>∃y:TV,e= .returned y.val/\AD n w' (fun g=>w1.heap.size<=g) y T/\Below w1.heap.size w1 w'):=fun w1 hb=>Lk n ⟨T.leaf, .slice a1 T.pairs.length q1, .slice a2 T.cuts.length q2, .slice a3 T.kids.length q3, .slice a4 T.buf.length q4⟩ T w1 (ht.below hb) hsz
 show Calls Tryz.prog 13 #[.agg #[.bool T.leaf, .slice a1 T.pairs.length q1, .slice a2 T.cuts.length q2, .slice a3 T.kids.length q3, .slice a4 T.buf.length q4], .agg #[.int .i64 o, .int .i64 k, .int .i64 v]] w _
 clear ht;generalize h0:T.leaf=lf at *
 generalize h1:T.pairs.length=n1 at *
 generalize h2:T.cuts.length=n2 at *
 generalize h3:T.kids.length=n3 at *
 generalize h4:T.buf.length=n4 at *
 have EF:Hid (T.leaf=lf/\T.pairs.length=n1/\T.cuts.length=n2/\T.kids.length=n3/\T.buf.length=n4):=⟨h0,h1,h2,h3,h4⟩
 clear h0 h1 h2 h3 h4;have Bw0:Hid (Below w.heap.size w (((w.alloc (.cells #[.bool lf, .slice a1 n1 q1, .slice a2 n2 q2, .slice a3 n3 q3, .slice a4 n4 q4] 30)).alloc (.cells #[.int .i64 o, .int .i64 k, .int .i64 v] 35)).alloc (.cells #[.bool false, .slice none 0 0, .slice none 0 0, .slice none 0 0, .slice none 0 0] 30))):=al3 _ _ _ _
 have Sw0:Hid (Ar (((w.alloc (.cells #[.bool lf, .slice a1 n1 q1, .slice a2 n2 q2, .slice a3 n3 q3, .slice a4 n4 q4] 30)).alloc (.cells #[.int .i64 o, .int .i64 k, .int .i64 v] 35)).alloc (.cells #[.bool false, .slice none 0 0, .slice none 0 0, .slice none 0 0, .slice none 0 0] 30)) w.heap.size #[.bool lf, .slice a1 n1 q1, .slice a2 n2 q2, .slice a3 n3 q3, .slice a4 n4 q4]):=(Ar.start w _).step (al2 _ _ _)
 have Mw0:Hid (Kw (((w.alloc (.cells #[.bool lf, .slice a1 n1 q1, .slice a2 n2 q2, .slice a3 n3 q3, .slice a4 n4 q4] 30)).alloc (.cells #[.int .i64 o, .int .i64 k, .int .i64 v] 35)).alloc (.cells #[.bool false, .slice none 0 0, .slice none 0 0, .slice none 0 0, .slice none 0 0] 30)) (w.heap.size+1) #[.int .i64 o, .int .i64 k, .int .i64 v]):=by
  have:Kw ((w.alloc (.cells #[.bool lf, .slice a1 n1 q1, .slice a2 n2 q2, .slice a3 n3 q3, .slice a4 n4 q4] 30)).alloc (.cells #[.int .i64 o, .int .i64 k, .int .i64 v] 35)) (w.alloc (.cells #[.bool lf, .slice a1 n1 q1, .slice a2 n2 q2, .slice a3 n3 q3, .slice a4 n4 q4] 30)).heap.size #[.int .i64 o, .int .i64 k, .int .i64 v]:=heap_alloc_new _ _
  rw[World.size_alloc] at this
  exact this.step (al1 _ _)
 have Xw0:Hid (Ar (((w.alloc (.cells #[.bool lf, .slice a1 n1 q1, .slice a2 n2 q2, .slice a3 n3 q3, .slice a4 n4 q4] 30)).alloc (.cells #[.int .i64 o, .int .i64 k, .int .i64 v] 35)).alloc (.cells #[.bool false, .slice none 0 0, .slice none 0 0, .slice none 0 0, .slice none 0 0] 30)) (w.heap.size+2) #[.bool false, .slice none 0 0, .slice none 0 0, .slice none 0 0, .slice none 0 0]):=by
  have:=Ar.start ((w.alloc (.cells #[.bool lf, .slice a1 n1 q1, .slice a2 n2 q2, .slice a3 n3 q3, .slice a4 n4 q4] 30)).alloc (.cells #[.int .i64 o, .int .i64 k, .int .i64 v] 35)) #[.bool false, .slice none 0 0, .slice none 0 0, .slice none 0 0, .slice none 0 0]
  rw[World.size_alloc,World.size_alloc] at this
  exact this
 have Zw0:Hid (w.heap.size+3<=(((w.alloc (.cells #[.bool lf, .slice a1 n1 q1, .slice a2 n2 q2, .slice a3 n3 q3, .slice a4 n4 q4] 30)).alloc (.cells #[.int .i64 o, .int .i64 k, .int .i64 v] 35)).alloc (.cells #[.bool false, .slice none 0 0, .slice none 0 0, .slice none 0 0, .slice none 0 0] 30)).heap.size):=by show _<=_;simp
 obtain⟨c0,c1,c2,c3,c4⟩:=Av Sw0.out
 have HO1:Hid _:=HO.out _ Bw0.out
 go_enter Tryz.func13,Tryz.ntmps13
 go_wp2_with fail;refine Calls.mono HO1.out ?_
 rintro e w1 ⟨rfl,hbw1⟩
 have Bw1:Hid (Below w.heap.size w w1):=Below.and Bw0.out hbw1
 have Sw1:Hid (Ar w1 w.heap.size #[.bool lf, .slice a1 n1 q1, .slice a2 n2 q2, .slice a3 n3 q3, .slice a4 n4 q4]):=Sw0.out.step hbw1
 have Mw1:Hid (Kw w1 (w.heap.size+1) #[.int .i64 o, .int .i64 k, .int .i64 v]):=Mw0.out.step hbw1
 have Xw1:Hid (Ar w1 (w.heap.size+2) #[.bool false, .slice none 0 0, .slice none 0 0, .slice none 0 0, .slice none 0 0]):=Xw0.out.step hbw1
 have Zw1:Hid (w.heap.size+3<=w1.heap.size):=Nat.le_trans Zw0.out hbw1.size
 clear c0 c1 c2 c3 c4 HO1 Bw0 Sw0 Mw0 Xw0 Zw0 hbw1 HO
 cases hok:okT T with
 |false=>
  have ED:Du T (o,k,v)=T:=by rw[Du,if_neg (by rw[hok];simp)]
  have HCC:Hid _:=HC.out w1 Bw1.out
  obtain⟨c0,c1,c2,c3,c4⟩:=Av Sw1.out
  go_wp2_with fail;refine Calls.mono HCC.out ?_
  rintro e w1z ⟨y,rfl,TY,hbz⟩
  obtain⟨ya1,ya2,ya3,ya4,yq1,yq2,yq3,yq4,hyy⟩:=(TY.treeF.treeAt).shape
  subst hyy;have TZ:Hid (AD n w1z (fun g=>w1.heap.size<=g) _ T):=TY
  have BZ:Hid (Below w.heap.size w w1z):=Below.and Bw1.out hbz
  have XZ:Hid (Ar w1z (w.heap.size+2) #[.bool false, .slice none 0 0, .slice none 0 0, .slice none 0 0, .slice none 0 0]):=Xw1.out.step hbz
  have HZ:Hid (w.heap.size+3<=w1.heap.size):=Zw1
  clear TY hbz HCC c0 c1 c2 c3 c4;generalize (T).leaf=yl at *
  generalize (T).pairs.length=yn1 at *
  generalize (T).cuts.length=yn2 at *
  generalize (T).kids.length=yn3 at *
  generalize (T).buf.length=yn4 at *
  obtain⟨⟨m0,m1,m2,m3,m4⟩,k0,k1,k2,k3,k4⟩:=Bu XZ.out
  have FIN:Hid (∀v0 v1 v2 v3 v4,AD (n) (set5 w1z (w.heap.size+2) v0 v1 v2 v3 v4) (fun g=>w.heap.size<=g) (⟨yl, .slice ya1 yn1 yq1, .slice ya2 yn2 yq2, .slice ya3 yn3 yq3, .slice ya4 yn4 yq4⟩:TV) (T)/\Below w.heap.size w (set5 w1z (w.heap.size+2) v0 v1 v2 v3 v4)):=fun v0 v1 v2 v3 v4=>by
   have hc:=Bs w1z (w.heap.size+2) v0 v1 v2 v3 v4
   have hz:=HZ.out
   exact⟨(TZ.out.chg hc (fun g hg k=>by omega)).mono (fun g hg=>by omega),BZ.out.trans (hc.below (fun g _ hg=>by omega) BZ.out.size)⟩
  clear TZ XZ;go_wp2;refine bodyPost_ret (v:= .agg #[.bool yl, .slice ya1 yn1 yq1, .slice ya2 yn2 yq2, .slice ya3 yn3 yq3, .slice ya4 yn4 yq4]) (by simp[results,Tryz.results13,go_sem,m0,m1,m2,m3,m4]) rfl ⟨⟨yl, .slice ya1 yn1 yq1, .slice ya2 yn2 yq2, .slice ya3 yn3 yq3, .slice ya4 yn4 yq4⟩,n,rfl, ?_,(FIN.out _ _ _ _ _).2⟩
  rw[ED]
  exact(FIN.out _ _ _ _ _).1
 |true=>
  obtain⟨j0,j1,j2⟩:=Mw1.out.three
  have HM:Hid _:=Ca o k v w1
  go_wp2_with fail;refine Calls.mono HM.out ?_
  rintro e w2 ⟨rfl,hbw2⟩
  have Bw2:Hid (Below w.heap.size w w2):=Below.and Bw1.out hbw2
  have Sw2:Hid (Ar w2 w.heap.size #[.bool lf, .slice a1 n1 q1, .slice a2 n2 q2, .slice a3 n3 q3, .slice a4 n4 q4]):=Sw1.out.step hbw2
  have Mw2:Hid (Kw w2 (w.heap.size+1) #[.int .i64 o, .int .i64 k, .int .i64 v]):=Mw1.out.step hbw2
  have Xw2:Hid (Ar w2 (w.heap.size+2) #[.bool false, .slice none 0 0, .slice none 0 0, .slice none 0 0, .slice none 0 0]):=Xw1.out.step hbw2
  have Zw2:Hid (w.heap.size+3<=w2.heap.size):=Nat.le_trans Zw1.out hbw2.size
  clear j0 j1 j2 HM Bw1 Sw1 Mw1 Xw1 Zw1 hbw2;obtain⟨j0,j1,j2⟩:=Mw2.out.three
  cases hmo:AJ o k v with
  |false=>
   have ED:Du T (o,k,v)=T:=by rw[Du,if_neg (by simp[hmo])]
   have HCC:Hid _:=HC.out w2 Bw2.out
   obtain⟨c0,c1,c2,c3,c4⟩:=Av Sw2.out
   go_wp2_with fail;refine Calls.mono HCC.out ?_
   rintro e w2z ⟨y,rfl,TY,hbz⟩
   obtain⟨ya1,ya2,ya3,ya4,yq1,yq2,yq3,yq4,hyy⟩:=(TY.treeF.treeAt).shape
   subst hyy;have TZ:Hid (AD n w2z (fun g=>w2.heap.size<=g) _ T):=TY
   have BZ:Hid (Below w.heap.size w w2z):=Below.and Bw2.out hbz
   have XZ:Hid (Ar w2z (w.heap.size+2) #[.bool false, .slice none 0 0, .slice none 0 0, .slice none 0 0, .slice none 0 0]):=Xw2.out.step hbz
   have HZ:Hid (w.heap.size+3<=w2.heap.size):=Zw2
   clear TY hbz HCC c0 c1 c2 c3 c4;generalize (T).leaf=yl at *
   generalize (T).pairs.length=yn1 at *
   generalize (T).cuts.length=yn2 at *
   generalize (T).kids.length=yn3 at *
   generalize (T).buf.length=yn4 at *
   obtain⟨⟨m0,m1,m2,m3,m4⟩,k0,k1,k2,k3,k4⟩:=Bu XZ.out
   have FIN:Hid (∀v0 v1 v2 v3 v4,AD (n) (set5 w2z (w.heap.size+2) v0 v1 v2 v3 v4) (fun g=>w.heap.size<=g) (⟨yl, .slice ya1 yn1 yq1, .slice ya2 yn2 yq2, .slice ya3 yn3 yq3, .slice ya4 yn4 yq4⟩:TV) (T)/\Below w.heap.size w (set5 w2z (w.heap.size+2) v0 v1 v2 v3 v4)):=fun v0 v1 v2 v3 v4=>by
    have hc:=Bs w2z (w.heap.size+2) v0 v1 v2 v3 v4
    have hz:=HZ.out
    exact⟨(TZ.out.chg hc (fun g hg k=>by omega)).mono (fun g hg=>by omega),BZ.out.trans (hc.below (fun g _ hg=>by omega) BZ.out.size)⟩
   clear TZ XZ;go_wp2;refine bodyPost_ret (v:= .agg #[.bool yl, .slice ya1 yn1 yq1, .slice ya2 yn2 yq2, .slice ya3 yn3 yq3, .slice ya4 yn4 yq4]) (by simp[results,Tryz.results13,go_sem,m0,m1,m2,m3,m4]) rfl ⟨⟨yl, .slice ya1 yn1 yq1, .slice ya2 yn2 yq2, .slice ya3 yn3 yq3, .slice ya4 yn4 yq4⟩,n,rfl, ?_,(FIN.out _ _ _ _ _).2⟩
   rw[ED]
   exact(FIN.out _ _ _ _ _).1
  |true=>
   by_cases ho4:o=4
   ·have ED:Du T (o,k,v)=T:=by rw[Du,if_neg (by simp[ho4])]
    have HCC:Hid _:=HC.out w2 Bw2.out
    obtain⟨c0,c1,c2,c3,c4⟩:=Av Sw2.out
    go_wp2_with fail;refine Calls.mono HCC.out ?_
    rintro e w2z ⟨y,rfl,TY,hbz⟩
    obtain⟨ya1,ya2,ya3,ya4,yq1,yq2,yq3,yq4,hyy⟩:=(TY.treeF.treeAt).shape
    subst hyy;have TZ:Hid (AD n w2z (fun g=>w2.heap.size<=g) _ T):=TY
    have BZ:Hid (Below w.heap.size w w2z):=Below.and Bw2.out hbz
    have XZ:Hid (Ar w2z (w.heap.size+2) #[.bool false, .slice none 0 0, .slice none 0 0, .slice none 0 0, .slice none 0 0]):=Xw2.out.step hbz
    have HZ:Hid (w.heap.size+3<=w2.heap.size):=Zw2
    clear TY hbz HCC c0 c1 c2 c3 c4;generalize (T).leaf=yl at *
    generalize (T).pairs.length=yn1 at *
    generalize (T).cuts.length=yn2 at *
    generalize (T).kids.length=yn3 at *
    generalize (T).buf.length=yn4 at *
    obtain⟨⟨m0,m1,m2,m3,m4⟩,k0,k1,k2,k3,k4⟩:=Bu XZ.out
    have FIN:Hid (∀v0 v1 v2 v3 v4,AD (n) (set5 w2z (w.heap.size+2) v0 v1 v2 v3 v4) (fun g=>w.heap.size<=g) (⟨yl, .slice ya1 yn1 yq1, .slice ya2 yn2 yq2, .slice ya3 yn3 yq3, .slice ya4 yn4 yq4⟩:TV) (T)/\Below w.heap.size w (set5 w2z (w.heap.size+2) v0 v1 v2 v3 v4)):=fun v0 v1 v2 v3 v4=>by
     have hc:=Bs w2z (w.heap.size+2) v0 v1 v2 v3 v4
     have hz:=HZ.out
     exact⟨(TZ.out.chg hc (fun g hg k=>by omega)).mono (fun g hg=>by omega),BZ.out.trans (hc.below (fun g _ hg=>by omega) BZ.out.size)⟩
    clear TZ XZ;go_wp2;refine bodyPost_ret (v:= .agg #[.bool yl, .slice ya1 yn1 yq1, .slice ya2 yn2 yq2, .slice ya3 yn3 yq3, .slice ya4 yn4 yq4]) (by simp[results,Tryz.results13,go_sem,m0,m1,m2,m3,m4]) rfl ⟨⟨yl, .slice ya1 yn1 yq1, .slice ya2 yn2 yq2, .slice ya3 yn3 yq3, .slice ya4 yn4 yq4⟩,n,rfl, ?_,(FIN.out _ _ _ _ _).2⟩
    rw[ED]
    exact(FIN.out _ _ _ _ _).1
   ·have EI:Hid (Du T (o,k,v)=if okT (Cg (Ac (Al T) T [(o,k,v)]))=true then Cg (Ac (Al T) T [(o,k,v)]) else T):=by show _=_;rw[Du,if_pos ⟨hok,hmo,ho4⟩]
    obtain⟨hsh,hd7,hwt⟩:=JI hok
    obtain⟨e,he1,he2,he3⟩:=Sk (ms:=[(o,k,v)]) hsh (by simp)
    obtain⟨hmm,hmw⟩:=BE _ _ [(o,k,v)] hsh (by simp)
    simp only[List.length_cons,List.length_nil] at he3 hmw
    have MO:Hid (MOk (Al T) (Ac (Al T) T [(o,k,v)])):=hmm
    have SH:Hid (shT (Al T) T):=hsh
    have WT:Hid (wtL (Al T) (Ac (Al T) T [(o,k,v)]).1<=1000000):=by show _<=_;omega
    have SZ:Hid (AU (Al T+(Ac (Al T) T [(o,k,v)]).1.length) (Cg (Ac (Al T) T [(o,k,v)]))<=1099511627776):=Nat.le_trans (Rw he2 he1) (by omega)
    have HG4:Hid (∀(F:Nat->Prop) (y:TV) (vm:Value) (c:World),Au (Al T) c F y T->Row c vm 1 (Af [(o,k,v)])->Calls Tryz.prog 39 #[y.val,vm] c fun e w' =>∃v1 v2,e= .returned (.agg #[v1,v2])/\Ah (Al T) w' (fun b=>F b∨c.heap.size<=b) v1 (Ac (Al T) T [(o,k,v)]).1/\An w' (fun b=>F b∨c.heap.size<=b) v2 (Ac (Al T) T [(o,k,v)]).2.length (Ad (Ac (Al T) T [(o,k,v)]).2)/\Below c.heap.size c w'):=fun F y vm c ht hr=>KJ (Al T) F y T vm [(o,k,v)] c ht hr SH.out (by simp) (by simp only[List.length_cons,List.length_nil];omega)
    have HR5:Hid (∀(F:Nat->Prop) (v1 v2:Value) (c:World),Ah (Al T) c F v1 (Ac (Al T) T [(o,k,v)]).1->An c F v2 (Ac (Al T) T [(o,k,v)]).2.length (Ad (Ac (Al T) T [(o,k,v)]).2)->Calls Tryz.prog 38 #[.agg #[v1,v2]] c fun e w' =>∃r:TV,e= .returned r.val/\Au (Al T+(Ac (Al T) T [(o,k,v)]).1.length) w' (fun b=>F b∨c.heap.size<=b) r (Cg (Ac (Al T) T [(o,k,v)]))/\Below c.heap.size c w'):=fun F v1 v2 c h1 h2=>Qv (Al T) F v1 v2 _ c h1 h2 MO.out WT.out
    clear hsh hd7 hwt he1 he2 he3 hmm hmw MO WT;generalize Al T+(Ac (Al T) T [(o,k,v)]).1.length=D at *
    generalize Cg (Ac (Al T) T [(o,k,v)])=R at *
    generalize Ac (Al T) T [(o,k,v)]=gm at *
    generalize Al T=d at *
    go_wp2_with fail;refine Er (fun V=>Below w.heap.size w V/\Ar V w.heap.size #[.bool lf, .slice a1 n1 q1, .slice a2 n2 q2, .slice a3 n3 q3, .slice a4 n4 q4]/\Kw V (w.heap.size+1) #[.int .i64 o, .int .i64 k, .int .i64 v]/\Ar V (w.heap.size+2) #[.bool false, .slice none 0 0, .slice none 0 0, .slice none 0 0, .slice none 0 0]/\w.heap.size+3<=V.heap.size) ⟨Bw2.out,Sw2.out,Mw2.out,Xw2.out,Zw2.out⟩ ?_
    rintro V ⟨BV0,SV0,MV0,XV0,ZV0⟩
    have BV:Hid (∀u,Below V.heap.size V u->Below w.heap.size w u):=fun u hu=>Below.and BV0 hu
    have SV:Hid (Ar V w.heap.size #[.bool lf, .slice a1 n1 q1, .slice a2 n2 q2, .slice a3 n3 q3, .slice a4 n4 q4]):=SV0
    have XV:Hid (Ar V (w.heap.size+2) #[.bool false, .slice none 0 0, .slice none 0 0, .slice none 0 0, .slice none 0 0]):=XV0
    have VW:Hid (w.heap.size<=V.heap.size):=BV0.size
    have ZV:Hid (w.heap.size+3<=V.heap.size):=ZV0
    have KEEP:Hid (∀u,Below V.heap.size V u->(u.cell? ⟨w.heap.size,0,none⟩=some (.bool lf)/\u.cell? ⟨w.heap.size,1,none⟩=some (.slice a1 n1 q1)/\u.cell? ⟨w.heap.size,2,none⟩=some (.slice a2 n2 q2)/\u.cell? ⟨w.heap.size,3,none⟩=some (.slice a3 n3 q3)/\u.cell? ⟨w.heap.size,4,none⟩=some (.slice a4 n4 q4))/\u.cell? ⟨w.heap.size+1,0,none⟩=some (.int .i64 o)/\u.cell? ⟨w.heap.size+1,1,none⟩=some (.int .i64 k)/\u.cell? ⟨w.heap.size+1,2,none⟩=some (.int .i64 v)):=fun u hu=>⟨Av (SV0.step hu),Kw.three (MV0.step hu)⟩
    have hS:(V.drew.cell? ⟨w.heap.size,0,none⟩=some (.bool lf)/\V.drew.cell? ⟨w.heap.size,1,none⟩=some (.slice a1 n1 q1)/\V.drew.cell? ⟨w.heap.size,2,none⟩=some (.slice a2 n2 q2)/\V.drew.cell? ⟨w.heap.size,3,none⟩=some (.slice a3 n3 q3)/\V.drew.cell? ⟨w.heap.size,4,none⟩=some (.slice a4 n4 q4))/\V.drew.cell? ⟨w.heap.size+1,0,none⟩=some (.int .i64 o)/\V.drew.cell? ⟨w.heap.size+1,1,none⟩=some (.int .i64 k)/\V.drew.cell? ⟨w.heap.size+1,2,none⟩=some (.int .i64 v):=KEEP.out _ (Below.refl _ _).drew
    have BC:Hid (Below V.heap.size V V.drew):=(Below.refl _ _).drew
    clear j0 j1 j2 Bw2 Sw2 Mw2 Xw2 Zw2 BV0 SV0 MV0 XV0 ZV0;go_cut [5] (fun s5 wx=>∃(N:Nat) (ra1 ra2 ra3 ra4:Option Addr) (rq1 rq2 rq3 rq4:Nat),s5= .pointer (some ⟨N,0,none⟩)/\Hid (Ar wx N #[.bool R.leaf, .slice ra1 R.pairs.length rq1, .slice ra2 R.cuts.length rq2, .slice ra3 R.kids.length rq3, .slice ra4 R.buf.length rq4])/\Hid (Au D wx (fun g=>w.heap.size<=g) ⟨R.leaf, .slice ra1 R.pairs.length rq1, .slice ra2 R.cuts.length rq2, .slice ra3 R.kids.length rq3, .slice ra4 R.buf.length rq4⟩ R)/\Hid (Below V.heap.size V wx))
    case first=>
     refine AV (fun u=>(u.cell? ⟨w.heap.size,0,none⟩=some (.bool lf)/\u.cell? ⟨w.heap.size,1,none⟩=some (.slice a1 n1 q1)/\u.cell? ⟨w.heap.size,2,none⟩=some (.slice a2 n2 q2)/\u.cell? ⟨w.heap.size,3,none⟩=some (.slice a3 n3 q3)/\u.cell? ⟨w.heap.size,4,none⟩=some (.slice a4 n4 q4))/\u.cell? ⟨w.heap.size+1,0,none⟩=some (.int .i64 o)/\u.cell? ⟨w.heap.size+1,1,none⟩=some (.int .i64 k)/\u.cell? ⟨w.heap.size+1,2,none⟩=some (.int .i64 v)) [_,_,_,_,_,_,_] _ rfl (by kernel_rfl) (by kernel_rfl) ?_
     generalize V.drew=wd at *
     refine tk 0 (oi:=⟨_,_,_,_,_,_⟩) (v:= ?_) rfl (by kernel_rfl) (fun _ _ _ h=>h) (Or.inl ⟨by rfl, ?_⟩) (by assumption) ?_
     rotate_left
     ·((intro w hSw;(try dsimp only at hSw);go_simp);(try with_reducible rfl))
     try simp only[Act.put,sA,sB,sC]
     refine tk 2 (oi:=⟨_,_,_,_,_,_⟩) (v:= ?_) rfl (by kernel_rfl) (fun _ _ _ h=>h) (Or.inl ⟨by rfl, ?_⟩) (by assumption) ?_
     rotate_left
     ·((intro w hSw;(try dsimp only at hSw);go_simp);(try with_reducible rfl))
     try simp only[Act.put,sA,sB,sC]
     refine wpAnyH_ready (rs:=[1,3,6]) (by kernel_rfl) (by simp) ?_
     refine AllReadyH.cons (o:=⟨_,_,_,_,_,_⟩) rfl (fun K hK=> ?_) (AllReadyH.cons (o:=⟨_,_,_,_,_,_⟩) rfl (fun K hK=> ?_) (AllReadyH.cons (o:=⟨_,_,_,_,_,_⟩) rfl (fun K hK=> ?_) AllReadyH.nil))
     ·skip
      have hv:=BC.out.size
      refine AZ rfl 37 [.tmp 21] #[30] rfl Pl [.agg #[.bool lf, .slice a1 n1 q1, .slice a2 n2 q2, .slice a3 n3 q3, .slice a4 n4 q4]] rfl (HC.out wd (BV.out _ BC.out)) ?_
      rintro e x1 ⟨y,rfl,ty,b⟩
      replace BC:=hid (Below.and BC.out b)
      have OT:=hid ((AD.down SH.out ty).treeF.mono (G:=(fun g=>V.heap.size<=g)) (fun g hg=>by omega))
      clear ty b hv;refine⟨_,rfl, ?_⟩
      refine hK.out _ _ (KEEP.out _ BC.out) (fun hH=> ?_)
      clear hK K;try simp only[Act.put,sA,sB,sC]
      refine wpAnyH_ready (rs:=[3,6]) (by kernel_rfl) (by simp) ?_
      refine AllReadyH.cons (o:=⟨_,_,_,_,_,_⟩) rfl (fun K hK=> ?_) (AllReadyH.cons (o:=⟨_,_,_,_,_,_⟩) rfl (fun K hK=> ?_) AllReadyH.nil)
      ·skip
       go_simp
       replace BC:=hid (Below.and BC.out (al1 x1 (.cells #[.int .i64 o, .int .i64 k, .int .i64 v] 35)))
       replace OT:=hid (OT.out.below (al1 x1 (.cells #[.int .i64 o, .int .i64 k, .int .i64 v] 35)))
       have RM:=hid (Row.laid x1 (Af [(o,k,v)]) 35 _ rfl)
       have RM2:Hid (Row (x1.alloc (.cells #[.int .i64 o, .int .i64 k, .int .i64 v] 35)) (.slice (some ⟨x1.heap.size,0,none⟩) 1 1) 1 (Af [(o,k,v)])):=RM.out
       clear RM;have RM:=hid RM2.out
       clear RM2;refine hK.out _ _ (KEEP.out _ BC.out) (fun hH=> ?_)
       clear hK K;try simp only[Act.put,sA,sB,sC]
       generalize (x1.alloc (.cells #[.int .i64 o, .int .i64 k, .int .i64 v] 35))=x2 at *
       generalize x1.heap.size=B3 at *
       refine wpAnyH_ready (rs:=[4,6]) (by kernel_rfl) (by simp) ?_
       refine AllReadyH.cons (o:=⟨_,_,_,_,_,_⟩) rfl (fun K hK=> ?_) (AllReadyH.cons (o:=⟨_,_,_,_,_,_⟩) rfl (fun K hK=> ?_) AllReadyH.nil)
       ·skip
        have hv:=BC.out.size
        refine AZ rfl 39 [.tmp 22, .tmp 24] #[30,24] rfl JV [y.val, .slice (some ⟨B3,0,none⟩) 1 1] rfl (HG4.out _ _ _ _ OT.out RM.out) ?_
        rintro e x4 ⟨v1,v2,rfl,t1,t2,b⟩
        clear OT RM;replace BC:=hid (Below.and BC.out b)
        have GT:=hid (And.intro (t1.mono (G:=(fun g=>V.heap.size<=g)) (fun g hg=>by rcases hg with hg|hg<;>omega)) (t2.mono (G:=(fun g=>V.heap.size<=g)) (fun g hg=>by rcases hg with hg|hg<;>omega)))
        clear t1 t2 b hv;refine⟨_,rfl, ?_⟩
        refine hK.out _ _ (KEEP.out _ BC.out) (fun hH=> ?_)
        clear hK K;try simp only[Act.put,sA,sB,sC]
        refine wpAnyH_ready (rs:=[5,6]) (by kernel_rfl) (by simp) ?_
        refine AllReadyH.cons (o:=⟨_,_,_,_,_,_⟩) rfl (fun K hK=> ?_) (AllReadyH.cons (o:=⟨_,_,_,_,_,_⟩) rfl (fun K hK=> ?_) AllReadyH.nil)
        ·skip
         have hv:=BC.out.size
         refine AZ rfl 38 [.tmp 25] #[74] rfl H5 [.agg #[v1,v2]] rfl (HR5.out _ _ _ _ GT.out.1 GT.out.2) ?_
         rintro e x5 ⟨r,rfl,t3,b⟩
         clear GT;replace BC:=hid (Below.and BC.out b)
         obtain⟨ra1,ra2,ra3,ra4,rq1,rq2,rq3,rq4,hr⟩:=t3.treeAt.shape
         subst hr;have TR:=hid (t3.mono (G:=(fun g=>V.heap.size<=g)) (fun g hg=>by rcases hg with hg|hg<;>omega))
         clear t3 b hv;refine⟨_,rfl, ?_⟩
         refine hK.out _ _ (KEEP.out _ BC.out) (fun hH=> ?_)
         clear hK K;try simp only[Act.put,sA,sB,sC]
         refine wpAnyH_ready (rs:=[6]) (by kernel_rfl) (by simp) ?_
         refine AllReadyH.cons (o:=⟨_,_,_,_,_,_⟩) rfl (fun K hK=> ?_) AllReadyH.nil
         go_simp
         have hN:=BC.out.size
         replace BC:=hid (Below.and BC.out (al1 x5 (.cells #[.bool false, .slice none 0 0, .slice none 0 0, .slice none 0 0, .slice none 0 0] 30)))
         replace TR:=hid ((TR.out.lt.below (al1 x5 (.cells #[.bool false, .slice none 0 0, .slice none 0 0, .slice none 0 0, .slice none 0 0] 30))).mono (G:=(fun g=>V.heap.size<=g/\¬g=x5.heap.size)) (fun g hg=>⟨hg.1,by omega⟩))
         have AL:=hid (Ar.start x5 #[.bool false, .slice none 0 0, .slice none 0 0, .slice none 0 0, .slice none 0 0])
         refine hK.out _ _ (KEEP.out _ BC.out) (fun hH=> ?_)
         clear hK K;try simp only[Act.put,sA,sB,sC]
         generalize (x5.alloc (.cells #[.bool false, .slice none 0 0, .slice none 0 0, .slice none 0 0, .slice none 0 0] 30))=x6 at *
         generalize x5.heap.size=N7 at *
         obtain⟨⟨m0,m1,m2,m3,m4⟩,k0,k1,k2,k3,k4⟩:=Bu AL.out
         have FIN:Hid (∀v0 v1 v2 v3 v4,Au D (set5 x6 N7 v0 v1 v2 v3 v4) (fun g=>w.heap.size<=g) ⟨R.leaf, .slice ra1 R.pairs.length rq1, .slice ra2 R.cuts.length rq2, .slice ra3 R.kids.length rq3, .slice ra4 R.buf.length rq4⟩ R/\Below V.heap.size V (set5 x6 N7 v0 v1 v2 v3 v4)):=fun v0 v1 v2 v3 v4=>by
          have hc:=Bs x6 N7 v0 v1 v2 v3 v4
          have hv:=VW.out
          exact⟨(TR.out.chg hc (fun g hg e=>hg.2 e)).mono (fun g hg=>Nat.le_trans hv hg.1),BC.out.trans (hc.below (fun g _ hg=>by omega) BC.out.size)⟩
         clear TR;refine wpAnyH_done (by kernel_rfl) ?_ _
         show Oper.wp _ _ _ _ _ _
         go_simp
         go_wp2_with fail;go_meet
         case rel=>exact⟨_,ra1,ra2,ra3,ra4,rq1,rq2,rq3,rq4,rfl,AL.out.set5 _ _ _ _ _,(FIN.out _ _ _ _ _).1,(FIN.out _ _ _ _ _).2⟩
        ·skip
         go_simp
         have hN:=BC.out.size
         replace BC:=hid (Below.and BC.out (al1 x4 (.cells #[.bool false, .slice none 0 0, .slice none 0 0, .slice none 0 0, .slice none 0 0] 30)))
         replace GT:=hid (And.intro ((GT.out.1.lt.below (al1 x4 (.cells #[.bool false, .slice none 0 0, .slice none 0 0, .slice none 0 0, .slice none 0 0] 30))).mono (G:=(fun g=>V.heap.size<=g/\¬g=x4.heap.size)) (fun g hg=>⟨hg.1,by omega⟩)) (((GT.out.2.lt (CF _).2).below (al1 x4 (.cells #[.bool false, .slice none 0 0, .slice none 0 0, .slice none 0 0, .slice none 0 0] 30))).mono (G:=(fun g=>V.heap.size<=g/\¬g=x4.heap.size)) (fun g hg=>⟨hg.1,by omega⟩)))
         have AL:=hid (Ar.start x4 #[.bool false, .slice none 0 0, .slice none 0 0, .slice none 0 0, .slice none 0 0])
         refine hK.out _ _ (KEEP.out _ BC.out) (fun hH=> ?_)
         clear hK K;try simp only[Act.put,sA,sB,sC]
         generalize (x4.alloc (.cells #[.bool false, .slice none 0 0, .slice none 0 0, .slice none 0 0, .slice none 0 0] 30))=x8 at *
         generalize x4.heap.size=N9 at *
         refine wpAnyH_ready (rs:=[5]) (by kernel_rfl) (by simp) ?_
         refine AllReadyH.cons (o:=⟨_,_,_,_,_,_⟩) rfl (fun K hK=> ?_) AllReadyH.nil
         have hv:=BC.out.size
         have hl:=(Array.getElem?_eq_some_iff.1 AL.out).1
         refine AZ rfl 38 [.tmp 25] #[74] rfl H5 [.agg #[v1,v2]] rfl (HR5.out _ _ _ _ GT.out.1 GT.out.2) ?_
         rintro e x10 ⟨r,rfl,t3,b⟩
         clear GT;replace BC:=hid (Below.and BC.out b)
         replace AL:=hid (AL.out.step b)
         obtain⟨ra1,ra2,ra3,ra4,rq1,rq2,rq3,rq4,hr⟩:=t3.treeAt.shape
         subst hr;have TR:=hid (t3.mono (G:=(fun g=>V.heap.size<=g/\¬g=N9)) (fun g hg=>by rcases hg with hg|hg<;>omega))
         clear t3 b hv hl;refine⟨_,rfl, ?_⟩
         refine hK.out _ _ (KEEP.out _ BC.out) (fun hH=> ?_)
         clear hK K;try simp only[Act.put,sA,sB,sC]
         obtain⟨⟨m0,m1,m2,m3,m4⟩,k0,k1,k2,k3,k4⟩:=Bu AL.out
         have FIN:Hid (∀v0 v1 v2 v3 v4,Au D (set5 x10 N9 v0 v1 v2 v3 v4) (fun g=>w.heap.size<=g) ⟨R.leaf, .slice ra1 R.pairs.length rq1, .slice ra2 R.cuts.length rq2, .slice ra3 R.kids.length rq3, .slice ra4 R.buf.length rq4⟩ R/\Below V.heap.size V (set5 x10 N9 v0 v1 v2 v3 v4)):=fun v0 v1 v2 v3 v4=>by
          have hc:=Bs x10 N9 v0 v1 v2 v3 v4
          have hv:=VW.out
          exact⟨(TR.out.chg hc (fun g hg e=>hg.2 e)).mono (fun g hg=>Nat.le_trans hv hg.1),BC.out.trans (hc.below (fun g _ hg=>by omega) BC.out.size)⟩
         clear TR;refine wpAnyH_done (by kernel_rfl) ?_ _
         show Oper.wp _ _ _ _ _ _
         go_simp
         go_wp2_with fail;go_meet
         case rel=>exact⟨_,ra1,ra2,ra3,ra4,rq1,rq2,rq3,rq4,rfl,AL.out.set5 _ _ _ _ _,(FIN.out _ _ _ _ _).1,(FIN.out _ _ _ _ _).2⟩
       ·skip
        go_simp
        have hN:=BC.out.size
        replace BC:=hid (Below.and BC.out (al1 x2 (.cells #[.bool false, .slice none 0 0, .slice none 0 0, .slice none 0 0, .slice none 0 0] 30)))
        replace RM:=hid (RM.out.below (al1 x2 (.cells #[.bool false, .slice none 0 0, .slice none 0 0, .slice none 0 0, .slice none 0 0] 30)))
        replace OT:=hid ((OT.out.lt.below (al1 x2 (.cells #[.bool false, .slice none 0 0, .slice none 0 0, .slice none 0 0, .slice none 0 0] 30))).mono (G:=(fun g=>V.heap.size<=g/\¬g=x2.heap.size)) (fun g hg=>⟨hg.1,by omega⟩))
        have AL:=hid (Ar.start x2 #[.bool false, .slice none 0 0, .slice none 0 0, .slice none 0 0, .slice none 0 0])
        refine hK.out _ _ (KEEP.out _ BC.out) (fun hH=> ?_)
        clear hK K;try simp only[Act.put,sA,sB,sC]
        generalize (x2.alloc (.cells #[.bool false, .slice none 0 0, .slice none 0 0, .slice none 0 0, .slice none 0 0] 30))=x11 at *
        generalize x2.heap.size=N12 at *
        refine wpAnyH_ready (rs:=[4]) (by kernel_rfl) (by simp) ?_
        refine AllReadyH.cons (o:=⟨_,_,_,_,_,_⟩) rfl (fun K hK=> ?_) AllReadyH.nil
        have hv:=BC.out.size
        have hl:=(Array.getElem?_eq_some_iff.1 AL.out).1
        refine AZ rfl 39 [.tmp 22, .tmp 24] #[30,24] rfl JV [y.val, .slice (some ⟨B3,0,none⟩) 1 1] rfl (HG4.out _ _ _ _ OT.out RM.out) ?_
        rintro e x13 ⟨v1,v2,rfl,t1,t2,b⟩
        clear OT RM;replace BC:=hid (Below.and BC.out b)
        replace AL:=hid (AL.out.step b)
        have GT:=hid (And.intro (t1.mono (G:=(fun g=>V.heap.size<=g/\¬g=N12)) (fun g hg=>by rcases hg with hg|hg<;>omega)) (t2.mono (G:=(fun g=>V.heap.size<=g/\¬g=N12)) (fun g hg=>by rcases hg with hg|hg<;>omega)))
        clear t1 t2 b hv hl;refine⟨_,rfl, ?_⟩
        refine hK.out _ _ (KEEP.out _ BC.out) (fun hH=> ?_)
        clear hK K;try simp only[Act.put,sA,sB,sC]
        refine wpAnyH_ready (rs:=[5]) (by kernel_rfl) (by simp) ?_
        refine AllReadyH.cons (o:=⟨_,_,_,_,_,_⟩) rfl (fun K hK=> ?_) AllReadyH.nil
        have hv:=BC.out.size
        have hl:=(Array.getElem?_eq_some_iff.1 AL.out).1
        refine AZ rfl 38 [.tmp 25] #[74] rfl H5 [.agg #[v1,v2]] rfl (HR5.out _ _ _ _ GT.out.1 GT.out.2) ?_
        rintro e x14 ⟨r,rfl,t3,b⟩
        clear GT;replace BC:=hid (Below.and BC.out b)
        replace AL:=hid (AL.out.step b)
        obtain⟨ra1,ra2,ra3,ra4,rq1,rq2,rq3,rq4,hr⟩:=t3.treeAt.shape
        subst hr;have TR:=hid (t3.mono (G:=(fun g=>V.heap.size<=g/\¬g=N12)) (fun g hg=>by rcases hg with hg|hg<;>omega))
        clear t3 b hv hl;refine⟨_,rfl, ?_⟩
        refine hK.out _ _ (KEEP.out _ BC.out) (fun hH=> ?_)
        clear hK K;try simp only[Act.put,sA,sB,sC]
        obtain⟨⟨m0,m1,m2,m3,m4⟩,k0,k1,k2,k3,k4⟩:=Bu AL.out
        have FIN:Hid (∀v0 v1 v2 v3 v4,Au D (set5 x14 N12 v0 v1 v2 v3 v4) (fun g=>w.heap.size<=g) ⟨R.leaf, .slice ra1 R.pairs.length rq1, .slice ra2 R.cuts.length rq2, .slice ra3 R.kids.length rq3, .slice ra4 R.buf.length rq4⟩ R/\Below V.heap.size V (set5 x14 N12 v0 v1 v2 v3 v4)):=fun v0 v1 v2 v3 v4=>by
         have hc:=Bs x14 N12 v0 v1 v2 v3 v4
         have hv:=VW.out
         exact⟨(TR.out.chg hc (fun g hg e=>hg.2 e)).mono (fun g hg=>Nat.le_trans hv hg.1),BC.out.trans (hc.below (fun g _ hg=>by omega) BC.out.size)⟩
        clear TR;refine wpAnyH_done (by kernel_rfl) ?_ _
        show Oper.wp _ _ _ _ _ _
        go_simp
        go_wp2_with fail;go_meet
        case rel=>exact⟨_,ra1,ra2,ra3,ra4,rq1,rq2,rq3,rq4,rfl,AL.out.set5 _ _ _ _ _,(FIN.out _ _ _ _ _).1,(FIN.out _ _ _ _ _).2⟩
      ·skip
       go_simp
       have hN:=BC.out.size
       replace BC:=hid (Below.and BC.out (al1 x1 (.cells #[.bool false, .slice none 0 0, .slice none 0 0, .slice none 0 0, .slice none 0 0] 30)))
       replace OT:=hid ((OT.out.lt.below (al1 x1 (.cells #[.bool false, .slice none 0 0, .slice none 0 0, .slice none 0 0, .slice none 0 0] 30))).mono (G:=(fun g=>V.heap.size<=g/\¬g=x1.heap.size)) (fun g hg=>⟨hg.1,by omega⟩))
       have AL:=hid (Ar.start x1 #[.bool false, .slice none 0 0, .slice none 0 0, .slice none 0 0, .slice none 0 0])
       refine hK.out _ _ (KEEP.out _ BC.out) (fun hH=> ?_)
       clear hK K;try simp only[Act.put,sA,sB,sC]
       generalize (x1.alloc (.cells #[.bool false, .slice none 0 0, .slice none 0 0, .slice none 0 0, .slice none 0 0] 30))=x15 at *
       generalize x1.heap.size=N16 at *
       refine wpAnyH_ready (rs:=[3]) (by kernel_rfl) (by simp) ?_
       refine AllReadyH.cons (o:=⟨_,_,_,_,_,_⟩) rfl (fun K hK=> ?_) AllReadyH.nil
       go_simp
       replace BC:=hid (Below.and BC.out (al1 x15 (.cells #[.int .i64 o, .int .i64 k, .int .i64 v] 35)))
       replace AL:=hid (AL.out.step (al1 x15 (.cells #[.int .i64 o, .int .i64 k, .int .i64 v] 35)))
       replace OT:=hid (OT.out.below (al1 x15 (.cells #[.int .i64 o, .int .i64 k, .int .i64 v] 35)))
       have RM:=hid (Row.laid x15 (Af [(o,k,v)]) 35 _ rfl)
       have RM2:Hid (Row (x15.alloc (.cells #[.int .i64 o, .int .i64 k, .int .i64 v] 35)) (.slice (some ⟨x15.heap.size,0,none⟩) 1 1) 1 (Af [(o,k,v)])):=RM.out
       clear RM;have RM:=hid RM2.out
       clear RM2;refine hK.out _ _ (KEEP.out _ BC.out) (fun hH=> ?_)
       clear hK K;try simp only[Act.put,sA,sB,sC]
       generalize (x15.alloc (.cells #[.int .i64 o, .int .i64 k, .int .i64 v] 35))=x17 at *
       generalize x15.heap.size=B18 at *
       refine wpAnyH_ready (rs:=[4]) (by kernel_rfl) (by simp) ?_
       refine AllReadyH.cons (o:=⟨_,_,_,_,_,_⟩) rfl (fun K hK=> ?_) AllReadyH.nil
       have hv:=BC.out.size
       have hl:=(Array.getElem?_eq_some_iff.1 AL.out).1
       refine AZ rfl 39 [.tmp 22, .tmp 24] #[30,24] rfl JV [y.val, .slice (some ⟨B18,0,none⟩) 1 1] rfl (HG4.out _ _ _ _ OT.out RM.out) ?_
       rintro e x19 ⟨v1,v2,rfl,t1,t2,b⟩
       clear OT RM;replace BC:=hid (Below.and BC.out b)
       replace AL:=hid (AL.out.step b)
       have GT:=hid (And.intro (t1.mono (G:=(fun g=>V.heap.size<=g/\¬g=N16)) (fun g hg=>by rcases hg with hg|hg<;>omega)) (t2.mono (G:=(fun g=>V.heap.size<=g/\¬g=N16)) (fun g hg=>by rcases hg with hg|hg<;>omega)))
       clear t1 t2 b hv hl;refine⟨_,rfl, ?_⟩
       refine hK.out _ _ (KEEP.out _ BC.out) (fun hH=> ?_)
       clear hK K;try simp only[Act.put,sA,sB,sC]
       refine wpAnyH_ready (rs:=[5]) (by kernel_rfl) (by simp) ?_
       refine AllReadyH.cons (o:=⟨_,_,_,_,_,_⟩) rfl (fun K hK=> ?_) AllReadyH.nil
       have hv:=BC.out.size
       have hl:=(Array.getElem?_eq_some_iff.1 AL.out).1
       refine AZ rfl 38 [.tmp 25] #[74] rfl H5 [.agg #[v1,v2]] rfl (HR5.out _ _ _ _ GT.out.1 GT.out.2) ?_
       rintro e x20 ⟨r,rfl,t3,b⟩
       clear GT;replace BC:=hid (Below.and BC.out b)
       replace AL:=hid (AL.out.step b)
       obtain⟨ra1,ra2,ra3,ra4,rq1,rq2,rq3,rq4,hr⟩:=t3.treeAt.shape
       subst hr;have TR:=hid (t3.mono (G:=(fun g=>V.heap.size<=g/\¬g=N16)) (fun g hg=>by rcases hg with hg|hg<;>omega))
       clear t3 b hv hl;refine⟨_,rfl, ?_⟩
       refine hK.out _ _ (KEEP.out _ BC.out) (fun hH=> ?_)
       clear hK K;try simp only[Act.put,sA,sB,sC]
       obtain⟨⟨m0,m1,m2,m3,m4⟩,k0,k1,k2,k3,k4⟩:=Bu AL.out
       have FIN:Hid (∀v0 v1 v2 v3 v4,Au D (set5 x20 N16 v0 v1 v2 v3 v4) (fun g=>w.heap.size<=g) ⟨R.leaf, .slice ra1 R.pairs.length rq1, .slice ra2 R.cuts.length rq2, .slice ra3 R.kids.length rq3, .slice ra4 R.buf.length rq4⟩ R/\Below V.heap.size V (set5 x20 N16 v0 v1 v2 v3 v4)):=fun v0 v1 v2 v3 v4=>by
        have hc:=Bs x20 N16 v0 v1 v2 v3 v4
        have hv:=VW.out
        exact⟨(TR.out.chg hc (fun g hg e=>hg.2 e)).mono (fun g hg=>Nat.le_trans hv hg.1),BC.out.trans (hc.below (fun g _ hg=>by omega) BC.out.size)⟩
       clear TR;refine wpAnyH_done (by kernel_rfl) ?_ _
       show Oper.wp _ _ _ _ _ _
       go_simp
       go_wp2_with fail;go_meet
       case rel=>exact⟨_,ra1,ra2,ra3,ra4,rq1,rq2,rq3,rq4,rfl,AL.out.set5 _ _ _ _ _,(FIN.out _ _ _ _ _).1,(FIN.out _ _ _ _ _).2⟩
     ·skip
      go_simp
      replace BC:=hid (Below.and BC.out (al1 wd (.cells #[.int .i64 o, .int .i64 k, .int .i64 v] 35)))
      have RM:=hid (Row.laid wd (Af [(o,k,v)]) 35 _ rfl)
      have RM2:Hid (Row (wd.alloc (.cells #[.int .i64 o, .int .i64 k, .int .i64 v] 35)) (.slice (some ⟨wd.heap.size,0,none⟩) 1 1) 1 (Af [(o,k,v)])):=RM.out
      clear RM;have RM:=hid RM2.out
      clear RM2;refine hK.out _ _ (KEEP.out _ BC.out) (fun hH=> ?_)
      clear hK K;try simp only[Act.put,sA,sB,sC]
      generalize (wd.alloc (.cells #[.int .i64 o, .int .i64 k, .int .i64 v] 35))=x21 at *
      generalize wd.heap.size=B22 at *
      refine wpAnyH_ready (rs:=[1,6]) (by kernel_rfl) (by simp) ?_
      refine AllReadyH.cons (o:=⟨_,_,_,_,_,_⟩) rfl (fun K hK=> ?_) (AllReadyH.cons (o:=⟨_,_,_,_,_,_⟩) rfl (fun K hK=> ?_) AllReadyH.nil)
      ·skip
       have hv:=BC.out.size
       refine AZ rfl 37 [.tmp 21] #[30] rfl Pl [.agg #[.bool lf, .slice a1 n1 q1, .slice a2 n2 q2, .slice a3 n3 q3, .slice a4 n4 q4]] rfl (HC.out x21 (BV.out _ BC.out)) ?_
       rintro e x23 ⟨y,rfl,ty,b⟩
       replace BC:=hid (Below.and BC.out b)
       replace RM:=hid (RM.out.below b)
       have OT:=hid ((AD.down SH.out ty).treeF.mono (G:=(fun g=>V.heap.size<=g)) (fun g hg=>by omega))
       clear ty b hv;refine⟨_,rfl, ?_⟩
       refine hK.out _ _ (KEEP.out _ BC.out) (fun hH=> ?_)
       clear hK K;try simp only[Act.put,sA,sB,sC]
       refine wpAnyH_ready (rs:=[4,6]) (by kernel_rfl) (by simp) ?_
       refine AllReadyH.cons (o:=⟨_,_,_,_,_,_⟩) rfl (fun K hK=> ?_) (AllReadyH.cons (o:=⟨_,_,_,_,_,_⟩) rfl (fun K hK=> ?_) AllReadyH.nil)
       ·skip
        have hv:=BC.out.size
        refine AZ rfl 39 [.tmp 22, .tmp 24] #[30,24] rfl JV [y.val, .slice (some ⟨B22,0,none⟩) 1 1] rfl (HG4.out _ _ _ _ OT.out RM.out) ?_
        rintro e x24 ⟨v1,v2,rfl,t1,t2,b⟩
        clear OT RM;replace BC:=hid (Below.and BC.out b)
        have GT:=hid (And.intro (t1.mono (G:=(fun g=>V.heap.size<=g)) (fun g hg=>by rcases hg with hg|hg<;>omega)) (t2.mono (G:=(fun g=>V.heap.size<=g)) (fun g hg=>by rcases hg with hg|hg<;>omega)))
        clear t1 t2 b hv;refine⟨_,rfl, ?_⟩
        refine hK.out _ _ (KEEP.out _ BC.out) (fun hH=> ?_)
        clear hK K;try simp only[Act.put,sA,sB,sC]
        refine wpAnyH_ready (rs:=[5,6]) (by kernel_rfl) (by simp) ?_
        refine AllReadyH.cons (o:=⟨_,_,_,_,_,_⟩) rfl (fun K hK=> ?_) (AllReadyH.cons (o:=⟨_,_,_,_,_,_⟩) rfl (fun K hK=> ?_) AllReadyH.nil)
        ·skip
         have hv:=BC.out.size
         refine AZ rfl 38 [.tmp 25] #[74] rfl H5 [.agg #[v1,v2]] rfl (HR5.out _ _ _ _ GT.out.1 GT.out.2) ?_
         rintro e x25 ⟨r,rfl,t3,b⟩
         clear GT;replace BC:=hid (Below.and BC.out b)
         obtain⟨ra1,ra2,ra3,ra4,rq1,rq2,rq3,rq4,hr⟩:=t3.treeAt.shape
         subst hr;have TR:=hid (t3.mono (G:=(fun g=>V.heap.size<=g)) (fun g hg=>by rcases hg with hg|hg<;>omega))
         clear t3 b hv;refine⟨_,rfl, ?_⟩
         refine hK.out _ _ (KEEP.out _ BC.out) (fun hH=> ?_)
         clear hK K;try simp only[Act.put,sA,sB,sC]
         refine wpAnyH_ready (rs:=[6]) (by kernel_rfl) (by simp) ?_
         refine AllReadyH.cons (o:=⟨_,_,_,_,_,_⟩) rfl (fun K hK=> ?_) AllReadyH.nil
         go_simp
         have hN:=BC.out.size
         replace BC:=hid (Below.and BC.out (al1 x25 (.cells #[.bool false, .slice none 0 0, .slice none 0 0, .slice none 0 0, .slice none 0 0] 30)))
         replace TR:=hid ((TR.out.lt.below (al1 x25 (.cells #[.bool false, .slice none 0 0, .slice none 0 0, .slice none 0 0, .slice none 0 0] 30))).mono (G:=(fun g=>V.heap.size<=g/\¬g=x25.heap.size)) (fun g hg=>⟨hg.1,by omega⟩))
         have AL:=hid (Ar.start x25 #[.bool false, .slice none 0 0, .slice none 0 0, .slice none 0 0, .slice none 0 0])
         refine hK.out _ _ (KEEP.out _ BC.out) (fun hH=> ?_)
         clear hK K;try simp only[Act.put,sA,sB,sC]
         generalize (x25.alloc (.cells #[.bool false, .slice none 0 0, .slice none 0 0, .slice none 0 0, .slice none 0 0] 30))=x26 at *
         generalize x25.heap.size=N27 at *
         obtain⟨⟨m0,m1,m2,m3,m4⟩,k0,k1,k2,k3,k4⟩:=Bu AL.out
         have FIN:Hid (∀v0 v1 v2 v3 v4,Au D (set5 x26 N27 v0 v1 v2 v3 v4) (fun g=>w.heap.size<=g) ⟨R.leaf, .slice ra1 R.pairs.length rq1, .slice ra2 R.cuts.length rq2, .slice ra3 R.kids.length rq3, .slice ra4 R.buf.length rq4⟩ R/\Below V.heap.size V (set5 x26 N27 v0 v1 v2 v3 v4)):=fun v0 v1 v2 v3 v4=>by
          have hc:=Bs x26 N27 v0 v1 v2 v3 v4
          have hv:=VW.out
          exact⟨(TR.out.chg hc (fun g hg e=>hg.2 e)).mono (fun g hg=>Nat.le_trans hv hg.1),BC.out.trans (hc.below (fun g _ hg=>by omega) BC.out.size)⟩
         clear TR;refine wpAnyH_done (by kernel_rfl) ?_ _
         show Oper.wp _ _ _ _ _ _
         go_simp
         go_wp2_with fail;go_meet
         case rel=>exact⟨_,ra1,ra2,ra3,ra4,rq1,rq2,rq3,rq4,rfl,AL.out.set5 _ _ _ _ _,(FIN.out _ _ _ _ _).1,(FIN.out _ _ _ _ _).2⟩
        ·skip
         go_simp
         have hN:=BC.out.size
         replace BC:=hid (Below.and BC.out (al1 x24 (.cells #[.bool false, .slice none 0 0, .slice none 0 0, .slice none 0 0, .slice none 0 0] 30)))
         replace GT:=hid (And.intro ((GT.out.1.lt.below (al1 x24 (.cells #[.bool false, .slice none 0 0, .slice none 0 0, .slice none 0 0, .slice none 0 0] 30))).mono (G:=(fun g=>V.heap.size<=g/\¬g=x24.heap.size)) (fun g hg=>⟨hg.1,by omega⟩)) (((GT.out.2.lt (CF _).2).below (al1 x24 (.cells #[.bool false, .slice none 0 0, .slice none 0 0, .slice none 0 0, .slice none 0 0] 30))).mono (G:=(fun g=>V.heap.size<=g/\¬g=x24.heap.size)) (fun g hg=>⟨hg.1,by omega⟩)))
         have AL:=hid (Ar.start x24 #[.bool false, .slice none 0 0, .slice none 0 0, .slice none 0 0, .slice none 0 0])
         refine hK.out _ _ (KEEP.out _ BC.out) (fun hH=> ?_)
         clear hK K;try simp only[Act.put,sA,sB,sC]
         generalize (x24.alloc (.cells #[.bool false, .slice none 0 0, .slice none 0 0, .slice none 0 0, .slice none 0 0] 30))=x28 at *
         generalize x24.heap.size=N29 at *
         refine wpAnyH_ready (rs:=[5]) (by kernel_rfl) (by simp) ?_
         refine AllReadyH.cons (o:=⟨_,_,_,_,_,_⟩) rfl (fun K hK=> ?_) AllReadyH.nil
         have hv:=BC.out.size
         have hl:=(Array.getElem?_eq_some_iff.1 AL.out).1
         refine AZ rfl 38 [.tmp 25] #[74] rfl H5 [.agg #[v1,v2]] rfl (HR5.out _ _ _ _ GT.out.1 GT.out.2) ?_
         rintro e x30 ⟨r,rfl,t3,b⟩
         clear GT;replace BC:=hid (Below.and BC.out b)
         replace AL:=hid (AL.out.step b)
         obtain⟨ra1,ra2,ra3,ra4,rq1,rq2,rq3,rq4,hr⟩:=t3.treeAt.shape
         subst hr;have TR:=hid (t3.mono (G:=(fun g=>V.heap.size<=g/\¬g=N29)) (fun g hg=>by rcases hg with hg|hg<;>omega))
         clear t3 b hv hl;refine⟨_,rfl, ?_⟩
         refine hK.out _ _ (KEEP.out _ BC.out) (fun hH=> ?_)
         clear hK K;try simp only[Act.put,sA,sB,sC]
         obtain⟨⟨m0,m1,m2,m3,m4⟩,k0,k1,k2,k3,k4⟩:=Bu AL.out
         have FIN:Hid (∀v0 v1 v2 v3 v4,Au D (set5 x30 N29 v0 v1 v2 v3 v4) (fun g=>w.heap.size<=g) ⟨R.leaf, .slice ra1 R.pairs.length rq1, .slice ra2 R.cuts.length rq2, .slice ra3 R.kids.length rq3, .slice ra4 R.buf.length rq4⟩ R/\Below V.heap.size V (set5 x30 N29 v0 v1 v2 v3 v4)):=fun v0 v1 v2 v3 v4=>by
          have hc:=Bs x30 N29 v0 v1 v2 v3 v4
          have hv:=VW.out
          exact⟨(TR.out.chg hc (fun g hg e=>hg.2 e)).mono (fun g hg=>Nat.le_trans hv hg.1),BC.out.trans (hc.below (fun g _ hg=>by omega) BC.out.size)⟩
         clear TR;refine wpAnyH_done (by kernel_rfl) ?_ _
         show Oper.wp _ _ _ _ _ _
         go_simp
         go_wp2_with fail;go_meet
         case rel=>exact⟨_,ra1,ra2,ra3,ra4,rq1,rq2,rq3,rq4,rfl,AL.out.set5 _ _ _ _ _,(FIN.out _ _ _ _ _).1,(FIN.out _ _ _ _ _).2⟩
       ·skip
        go_simp
        have hN:=BC.out.size
        replace BC:=hid (Below.and BC.out (al1 x23 (.cells #[.bool false, .slice none 0 0, .slice none 0 0, .slice none 0 0, .slice none 0 0] 30)))
        replace RM:=hid (RM.out.below (al1 x23 (.cells #[.bool false, .slice none 0 0, .slice none 0 0, .slice none 0 0, .slice none 0 0] 30)))
        replace OT:=hid ((OT.out.lt.below (al1 x23 (.cells #[.bool false, .slice none 0 0, .slice none 0 0, .slice none 0 0, .slice none 0 0] 30))).mono (G:=(fun g=>V.heap.size<=g/\¬g=x23.heap.size)) (fun g hg=>⟨hg.1,by omega⟩))
        have AL:=hid (Ar.start x23 #[.bool false, .slice none 0 0, .slice none 0 0, .slice none 0 0, .slice none 0 0])
        refine hK.out _ _ (KEEP.out _ BC.out) (fun hH=> ?_)
        clear hK K;try simp only[Act.put,sA,sB,sC]
        generalize (x23.alloc (.cells #[.bool false, .slice none 0 0, .slice none 0 0, .slice none 0 0, .slice none 0 0] 30))=x31 at *
        generalize x23.heap.size=N32 at *
        refine wpAnyH_ready (rs:=[4]) (by kernel_rfl) (by simp) ?_
        refine AllReadyH.cons (o:=⟨_,_,_,_,_,_⟩) rfl (fun K hK=> ?_) AllReadyH.nil
        have hv:=BC.out.size
        have hl:=(Array.getElem?_eq_some_iff.1 AL.out).1
        refine AZ rfl 39 [.tmp 22, .tmp 24] #[30,24] rfl JV [y.val, .slice (some ⟨B22,0,none⟩) 1 1] rfl (HG4.out _ _ _ _ OT.out RM.out) ?_
        rintro e x33 ⟨v1,v2,rfl,t1,t2,b⟩
        clear OT RM;replace BC:=hid (Below.and BC.out b)
        replace AL:=hid (AL.out.step b)
        have GT:=hid (And.intro (t1.mono (G:=(fun g=>V.heap.size<=g/\¬g=N32)) (fun g hg=>by rcases hg with hg|hg<;>omega)) (t2.mono (G:=(fun g=>V.heap.size<=g/\¬g=N32)) (fun g hg=>by rcases hg with hg|hg<;>omega)))
        clear t1 t2 b hv hl;refine⟨_,rfl, ?_⟩
        refine hK.out _ _ (KEEP.out _ BC.out) (fun hH=> ?_)
        clear hK K;try simp only[Act.put,sA,sB,sC]
        refine wpAnyH_ready (rs:=[5]) (by kernel_rfl) (by simp) ?_
        refine AllReadyH.cons (o:=⟨_,_,_,_,_,_⟩) rfl (fun K hK=> ?_) AllReadyH.nil
        have hv:=BC.out.size
        have hl:=(Array.getElem?_eq_some_iff.1 AL.out).1
        refine AZ rfl 38 [.tmp 25] #[74] rfl H5 [.agg #[v1,v2]] rfl (HR5.out _ _ _ _ GT.out.1 GT.out.2) ?_
        rintro e x34 ⟨r,rfl,t3,b⟩
        clear GT;replace BC:=hid (Below.and BC.out b)
        replace AL:=hid (AL.out.step b)
        obtain⟨ra1,ra2,ra3,ra4,rq1,rq2,rq3,rq4,hr⟩:=t3.treeAt.shape
        subst hr;have TR:=hid (t3.mono (G:=(fun g=>V.heap.size<=g/\¬g=N32)) (fun g hg=>by rcases hg with hg|hg<;>omega))
        clear t3 b hv hl;refine⟨_,rfl, ?_⟩
        refine hK.out _ _ (KEEP.out _ BC.out) (fun hH=> ?_)
        clear hK K;try simp only[Act.put,sA,sB,sC]
        obtain⟨⟨m0,m1,m2,m3,m4⟩,k0,k1,k2,k3,k4⟩:=Bu AL.out
        have FIN:Hid (∀v0 v1 v2 v3 v4,Au D (set5 x34 N32 v0 v1 v2 v3 v4) (fun g=>w.heap.size<=g) ⟨R.leaf, .slice ra1 R.pairs.length rq1, .slice ra2 R.cuts.length rq2, .slice ra3 R.kids.length rq3, .slice ra4 R.buf.length rq4⟩ R/\Below V.heap.size V (set5 x34 N32 v0 v1 v2 v3 v4)):=fun v0 v1 v2 v3 v4=>by
         have hc:=Bs x34 N32 v0 v1 v2 v3 v4
         have hv:=VW.out
         exact⟨(TR.out.chg hc (fun g hg e=>hg.2 e)).mono (fun g hg=>Nat.le_trans hv hg.1),BC.out.trans (hc.below (fun g _ hg=>by omega) BC.out.size)⟩
        clear TR;refine wpAnyH_done (by kernel_rfl) ?_ _
        show Oper.wp _ _ _ _ _ _
        go_simp
        go_wp2_with fail;go_meet
        case rel=>exact⟨_,ra1,ra2,ra3,ra4,rq1,rq2,rq3,rq4,rfl,AL.out.set5 _ _ _ _ _,(FIN.out _ _ _ _ _).1,(FIN.out _ _ _ _ _).2⟩
      ·skip
       go_simp
       have hN:=BC.out.size
       replace BC:=hid (Below.and BC.out (al1 x21 (.cells #[.bool false, .slice none 0 0, .slice none 0 0, .slice none 0 0, .slice none 0 0] 30)))
       replace RM:=hid (RM.out.below (al1 x21 (.cells #[.bool false, .slice none 0 0, .slice none 0 0, .slice none 0 0, .slice none 0 0] 30)))
       have AL:=hid (Ar.start x21 #[.bool false, .slice none 0 0, .slice none 0 0, .slice none 0 0, .slice none 0 0])
       refine hK.out _ _ (KEEP.out _ BC.out) (fun hH=> ?_)
       clear hK K;try simp only[Act.put,sA,sB,sC]
       generalize (x21.alloc (.cells #[.bool false, .slice none 0 0, .slice none 0 0, .slice none 0 0, .slice none 0 0] 30))=x35 at *
       generalize x21.heap.size=N36 at *
       refine wpAnyH_ready (rs:=[1]) (by kernel_rfl) (by simp) ?_
       refine AllReadyH.cons (o:=⟨_,_,_,_,_,_⟩) rfl (fun K hK=> ?_) AllReadyH.nil
       have hv:=BC.out.size
       have hl:=(Array.getElem?_eq_some_iff.1 AL.out).1
       refine AZ rfl 37 [.tmp 21] #[30] rfl Pl [.agg #[.bool lf, .slice a1 n1 q1, .slice a2 n2 q2, .slice a3 n3 q3, .slice a4 n4 q4]] rfl (HC.out x35 (BV.out _ BC.out)) ?_
       rintro e x37 ⟨y,rfl,ty,b⟩
       replace BC:=hid (Below.and BC.out b)
       replace AL:=hid (AL.out.step b)
       replace RM:=hid (RM.out.below b)
       have OT:=hid ((AD.down SH.out ty).treeF.mono (G:=(fun g=>V.heap.size<=g/\¬g=N36)) (fun g hg=>by omega))
       clear ty b hv hl;refine⟨_,rfl, ?_⟩
       refine hK.out _ _ (KEEP.out _ BC.out) (fun hH=> ?_)
       clear hK K;try simp only[Act.put,sA,sB,sC]
       refine wpAnyH_ready (rs:=[4]) (by kernel_rfl) (by simp) ?_
       refine AllReadyH.cons (o:=⟨_,_,_,_,_,_⟩) rfl (fun K hK=> ?_) AllReadyH.nil
       have hv:=BC.out.size
       have hl:=(Array.getElem?_eq_some_iff.1 AL.out).1
       refine AZ rfl 39 [.tmp 22, .tmp 24] #[30,24] rfl JV [y.val, .slice (some ⟨B22,0,none⟩) 1 1] rfl (HG4.out _ _ _ _ OT.out RM.out) ?_
       rintro e x38 ⟨v1,v2,rfl,t1,t2,b⟩
       clear OT RM;replace BC:=hid (Below.and BC.out b)
       replace AL:=hid (AL.out.step b)
       have GT:=hid (And.intro (t1.mono (G:=(fun g=>V.heap.size<=g/\¬g=N36)) (fun g hg=>by rcases hg with hg|hg<;>omega)) (t2.mono (G:=(fun g=>V.heap.size<=g/\¬g=N36)) (fun g hg=>by rcases hg with hg|hg<;>omega)))
       clear t1 t2 b hv hl;refine⟨_,rfl, ?_⟩
       refine hK.out _ _ (KEEP.out _ BC.out) (fun hH=> ?_)
       clear hK K;try simp only[Act.put,sA,sB,sC]
       refine wpAnyH_ready (rs:=[5]) (by kernel_rfl) (by simp) ?_
       refine AllReadyH.cons (o:=⟨_,_,_,_,_,_⟩) rfl (fun K hK=> ?_) AllReadyH.nil
       have hv:=BC.out.size
       have hl:=(Array.getElem?_eq_some_iff.1 AL.out).1
       refine AZ rfl 38 [.tmp 25] #[74] rfl H5 [.agg #[v1,v2]] rfl (HR5.out _ _ _ _ GT.out.1 GT.out.2) ?_
       rintro e x39 ⟨r,rfl,t3,b⟩
       clear GT;replace BC:=hid (Below.and BC.out b)
       replace AL:=hid (AL.out.step b)
       obtain⟨ra1,ra2,ra3,ra4,rq1,rq2,rq3,rq4,hr⟩:=t3.treeAt.shape
       subst hr;have TR:=hid (t3.mono (G:=(fun g=>V.heap.size<=g/\¬g=N36)) (fun g hg=>by rcases hg with hg|hg<;>omega))
       clear t3 b hv hl;refine⟨_,rfl, ?_⟩
       refine hK.out _ _ (KEEP.out _ BC.out) (fun hH=> ?_)
       clear hK K;try simp only[Act.put,sA,sB,sC]
       obtain⟨⟨m0,m1,m2,m3,m4⟩,k0,k1,k2,k3,k4⟩:=Bu AL.out
       have FIN:Hid (∀v0 v1 v2 v3 v4,Au D (set5 x39 N36 v0 v1 v2 v3 v4) (fun g=>w.heap.size<=g) ⟨R.leaf, .slice ra1 R.pairs.length rq1, .slice ra2 R.cuts.length rq2, .slice ra3 R.kids.length rq3, .slice ra4 R.buf.length rq4⟩ R/\Below V.heap.size V (set5 x39 N36 v0 v1 v2 v3 v4)):=fun v0 v1 v2 v3 v4=>by
        have hc:=Bs x39 N36 v0 v1 v2 v3 v4
        have hv:=VW.out
        exact⟨(TR.out.chg hc (fun g hg e=>hg.2 e)).mono (fun g hg=>Nat.le_trans hv hg.1),BC.out.trans (hc.below (fun g _ hg=>by omega) BC.out.size)⟩
       clear TR;refine wpAnyH_done (by kernel_rfl) ?_ _
       show Oper.wp _ _ _ _ _ _
       go_simp
       go_wp2_with fail;go_meet
       case rel=>exact⟨_,ra1,ra2,ra3,ra4,rq1,rq2,rq3,rq4,rfl,AL.out.set5 _ _ _ _ _,(FIN.out _ _ _ _ _).1,(FIN.out _ _ _ _ _).2⟩
     ·skip
      go_simp
      have hN:=BC.out.size
      replace BC:=hid (Below.and BC.out (al1 wd (.cells #[.bool false, .slice none 0 0, .slice none 0 0, .slice none 0 0, .slice none 0 0] 30)))
      have AL:=hid (Ar.start wd #[.bool false, .slice none 0 0, .slice none 0 0, .slice none 0 0, .slice none 0 0])
      refine hK.out _ _ (KEEP.out _ BC.out) (fun hH=> ?_)
      clear hK K;try simp only[Act.put,sA,sB,sC]
      generalize (wd.alloc (.cells #[.bool false, .slice none 0 0, .slice none 0 0, .slice none 0 0, .slice none 0 0] 30))=x40 at *
      generalize wd.heap.size=N41 at *
      refine wpAnyH_ready (rs:=[1,3]) (by kernel_rfl) (by simp) ?_
      refine AllReadyH.cons (o:=⟨_,_,_,_,_,_⟩) rfl (fun K hK=> ?_) (AllReadyH.cons (o:=⟨_,_,_,_,_,_⟩) rfl (fun K hK=> ?_) AllReadyH.nil)
      ·skip
       have hv:=BC.out.size
       have hl:=(Array.getElem?_eq_some_iff.1 AL.out).1
       refine AZ rfl 37 [.tmp 21] #[30] rfl Pl [.agg #[.bool lf, .slice a1 n1 q1, .slice a2 n2 q2, .slice a3 n3 q3, .slice a4 n4 q4]] rfl (HC.out x40 (BV.out _ BC.out)) ?_
       rintro e x42 ⟨y,rfl,ty,b⟩
       replace BC:=hid (Below.and BC.out b)
       replace AL:=hid (AL.out.step b)
       have OT:=hid ((AD.down SH.out ty).treeF.mono (G:=(fun g=>V.heap.size<=g/\¬g=N41)) (fun g hg=>by omega))
       clear ty b hv hl;refine⟨_,rfl, ?_⟩
       refine hK.out _ _ (KEEP.out _ BC.out) (fun hH=> ?_)
       clear hK K;try simp only[Act.put,sA,sB,sC]
       refine wpAnyH_ready (rs:=[3]) (by kernel_rfl) (by simp) ?_
       refine AllReadyH.cons (o:=⟨_,_,_,_,_,_⟩) rfl (fun K hK=> ?_) AllReadyH.nil
       go_simp
       replace BC:=hid (Below.and BC.out (al1 x42 (.cells #[.int .i64 o, .int .i64 k, .int .i64 v] 35)))
       replace AL:=hid (AL.out.step (al1 x42 (.cells #[.int .i64 o, .int .i64 k, .int .i64 v] 35)))
       replace OT:=hid (OT.out.below (al1 x42 (.cells #[.int .i64 o, .int .i64 k, .int .i64 v] 35)))
       have RM:=hid (Row.laid x42 (Af [(o,k,v)]) 35 _ rfl)
       have RM2:Hid (Row (x42.alloc (.cells #[.int .i64 o, .int .i64 k, .int .i64 v] 35)) (.slice (some ⟨x42.heap.size,0,none⟩) 1 1) 1 (Af [(o,k,v)])):=RM.out
       clear RM;have RM:=hid RM2.out
       clear RM2;refine hK.out _ _ (KEEP.out _ BC.out) (fun hH=> ?_)
       clear hK K;try simp only[Act.put,sA,sB,sC]
       generalize (x42.alloc (.cells #[.int .i64 o, .int .i64 k, .int .i64 v] 35))=x43 at *
       generalize x42.heap.size=B44 at *
       refine wpAnyH_ready (rs:=[4]) (by kernel_rfl) (by simp) ?_
       refine AllReadyH.cons (o:=⟨_,_,_,_,_,_⟩) rfl (fun K hK=> ?_) AllReadyH.nil
       have hv:=BC.out.size
       have hl:=(Array.getElem?_eq_some_iff.1 AL.out).1
       refine AZ rfl 39 [.tmp 22, .tmp 24] #[30,24] rfl JV [y.val, .slice (some ⟨B44,0,none⟩) 1 1] rfl (HG4.out _ _ _ _ OT.out RM.out) ?_
       rintro e x45 ⟨v1,v2,rfl,t1,t2,b⟩
       clear OT RM;replace BC:=hid (Below.and BC.out b)
       replace AL:=hid (AL.out.step b)
       have GT:=hid (And.intro (t1.mono (G:=(fun g=>V.heap.size<=g/\¬g=N41)) (fun g hg=>by rcases hg with hg|hg<;>omega)) (t2.mono (G:=(fun g=>V.heap.size<=g/\¬g=N41)) (fun g hg=>by rcases hg with hg|hg<;>omega)))
       clear t1 t2 b hv hl;refine⟨_,rfl, ?_⟩
       refine hK.out _ _ (KEEP.out _ BC.out) (fun hH=> ?_)
       clear hK K;try simp only[Act.put,sA,sB,sC]
       refine wpAnyH_ready (rs:=[5]) (by kernel_rfl) (by simp) ?_
       refine AllReadyH.cons (o:=⟨_,_,_,_,_,_⟩) rfl (fun K hK=> ?_) AllReadyH.nil
       have hv:=BC.out.size
       have hl:=(Array.getElem?_eq_some_iff.1 AL.out).1
       refine AZ rfl 38 [.tmp 25] #[74] rfl H5 [.agg #[v1,v2]] rfl (HR5.out _ _ _ _ GT.out.1 GT.out.2) ?_
       rintro e x46 ⟨r,rfl,t3,b⟩
       clear GT;replace BC:=hid (Below.and BC.out b)
       replace AL:=hid (AL.out.step b)
       obtain⟨ra1,ra2,ra3,ra4,rq1,rq2,rq3,rq4,hr⟩:=t3.treeAt.shape
       subst hr;have TR:=hid (t3.mono (G:=(fun g=>V.heap.size<=g/\¬g=N41)) (fun g hg=>by rcases hg with hg|hg<;>omega))
       clear t3 b hv hl;refine⟨_,rfl, ?_⟩
       refine hK.out _ _ (KEEP.out _ BC.out) (fun hH=> ?_)
       clear hK K;try simp only[Act.put,sA,sB,sC]
       obtain⟨⟨m0,m1,m2,m3,m4⟩,k0,k1,k2,k3,k4⟩:=Bu AL.out
       have FIN:Hid (∀v0 v1 v2 v3 v4,Au D (set5 x46 N41 v0 v1 v2 v3 v4) (fun g=>w.heap.size<=g) ⟨R.leaf, .slice ra1 R.pairs.length rq1, .slice ra2 R.cuts.length rq2, .slice ra3 R.kids.length rq3, .slice ra4 R.buf.length rq4⟩ R/\Below V.heap.size V (set5 x46 N41 v0 v1 v2 v3 v4)):=fun v0 v1 v2 v3 v4=>by
        have hc:=Bs x46 N41 v0 v1 v2 v3 v4
        have hv:=VW.out
        exact⟨(TR.out.chg hc (fun g hg e=>hg.2 e)).mono (fun g hg=>Nat.le_trans hv hg.1),BC.out.trans (hc.below (fun g _ hg=>by omega) BC.out.size)⟩
       clear TR;refine wpAnyH_done (by kernel_rfl) ?_ _
       show Oper.wp _ _ _ _ _ _
       go_simp
       go_wp2_with fail;go_meet
       case rel=>exact⟨_,ra1,ra2,ra3,ra4,rq1,rq2,rq3,rq4,rfl,AL.out.set5 _ _ _ _ _,(FIN.out _ _ _ _ _).1,(FIN.out _ _ _ _ _).2⟩
      ·skip
       go_simp
       replace BC:=hid (Below.and BC.out (al1 x40 (.cells #[.int .i64 o, .int .i64 k, .int .i64 v] 35)))
       replace AL:=hid (AL.out.step (al1 x40 (.cells #[.int .i64 o, .int .i64 k, .int .i64 v] 35)))
       have RM:=hid (Row.laid x40 (Af [(o,k,v)]) 35 _ rfl)
       have RM2:Hid (Row (x40.alloc (.cells #[.int .i64 o, .int .i64 k, .int .i64 v] 35)) (.slice (some ⟨x40.heap.size,0,none⟩) 1 1) 1 (Af [(o,k,v)])):=RM.out
       clear RM;have RM:=hid RM2.out
       clear RM2;refine hK.out _ _ (KEEP.out _ BC.out) (fun hH=> ?_)
       clear hK K;try simp only[Act.put,sA,sB,sC]
       generalize (x40.alloc (.cells #[.int .i64 o, .int .i64 k, .int .i64 v] 35))=x47 at *
       generalize x40.heap.size=B48 at *
       refine wpAnyH_ready (rs:=[1]) (by kernel_rfl) (by simp) ?_
       refine AllReadyH.cons (o:=⟨_,_,_,_,_,_⟩) rfl (fun K hK=> ?_) AllReadyH.nil
       have hv:=BC.out.size
       have hl:=(Array.getElem?_eq_some_iff.1 AL.out).1
       refine AZ rfl 37 [.tmp 21] #[30] rfl Pl [.agg #[.bool lf, .slice a1 n1 q1, .slice a2 n2 q2, .slice a3 n3 q3, .slice a4 n4 q4]] rfl (HC.out x47 (BV.out _ BC.out)) ?_
       rintro e x49 ⟨y,rfl,ty,b⟩
       replace BC:=hid (Below.and BC.out b)
       replace AL:=hid (AL.out.step b)
       replace RM:=hid (RM.out.below b)
       have OT:=hid ((AD.down SH.out ty).treeF.mono (G:=(fun g=>V.heap.size<=g/\¬g=N41)) (fun g hg=>by omega))
       clear ty b hv hl;refine⟨_,rfl, ?_⟩
       refine hK.out _ _ (KEEP.out _ BC.out) (fun hH=> ?_)
       clear hK K;try simp only[Act.put,sA,sB,sC]
       refine wpAnyH_ready (rs:=[4]) (by kernel_rfl) (by simp) ?_
       refine AllReadyH.cons (o:=⟨_,_,_,_,_,_⟩) rfl (fun K hK=> ?_) AllReadyH.nil
       have hv:=BC.out.size
       have hl:=(Array.getElem?_eq_some_iff.1 AL.out).1
       refine AZ rfl 39 [.tmp 22, .tmp 24] #[30,24] rfl JV [y.val, .slice (some ⟨B48,0,none⟩) 1 1] rfl (HG4.out _ _ _ _ OT.out RM.out) ?_
       rintro e x50 ⟨v1,v2,rfl,t1,t2,b⟩
       clear OT RM;replace BC:=hid (Below.and BC.out b)
       replace AL:=hid (AL.out.step b)
       have GT:=hid (And.intro (t1.mono (G:=(fun g=>V.heap.size<=g/\¬g=N41)) (fun g hg=>by rcases hg with hg|hg<;>omega)) (t2.mono (G:=(fun g=>V.heap.size<=g/\¬g=N41)) (fun g hg=>by rcases hg with hg|hg<;>omega)))
       clear t1 t2 b hv hl;refine⟨_,rfl, ?_⟩
       refine hK.out _ _ (KEEP.out _ BC.out) (fun hH=> ?_)
       clear hK K;try simp only[Act.put,sA,sB,sC]
       refine wpAnyH_ready (rs:=[5]) (by kernel_rfl) (by simp) ?_
       refine AllReadyH.cons (o:=⟨_,_,_,_,_,_⟩) rfl (fun K hK=> ?_) AllReadyH.nil
       have hv:=BC.out.size
       have hl:=(Array.getElem?_eq_some_iff.1 AL.out).1
       refine AZ rfl 38 [.tmp 25] #[74] rfl H5 [.agg #[v1,v2]] rfl (HR5.out _ _ _ _ GT.out.1 GT.out.2) ?_
       rintro e x51 ⟨r,rfl,t3,b⟩
       clear GT;replace BC:=hid (Below.and BC.out b)
       replace AL:=hid (AL.out.step b)
       obtain⟨ra1,ra2,ra3,ra4,rq1,rq2,rq3,rq4,hr⟩:=t3.treeAt.shape
       subst hr;have TR:=hid (t3.mono (G:=(fun g=>V.heap.size<=g/\¬g=N41)) (fun g hg=>by rcases hg with hg|hg<;>omega))
       clear t3 b hv hl;refine⟨_,rfl, ?_⟩
       refine hK.out _ _ (KEEP.out _ BC.out) (fun hH=> ?_)
       clear hK K;try simp only[Act.put,sA,sB,sC]
       obtain⟨⟨m0,m1,m2,m3,m4⟩,k0,k1,k2,k3,k4⟩:=Bu AL.out
       have FIN:Hid (∀v0 v1 v2 v3 v4,Au D (set5 x51 N41 v0 v1 v2 v3 v4) (fun g=>w.heap.size<=g) ⟨R.leaf, .slice ra1 R.pairs.length rq1, .slice ra2 R.cuts.length rq2, .slice ra3 R.kids.length rq3, .slice ra4 R.buf.length rq4⟩ R/\Below V.heap.size V (set5 x51 N41 v0 v1 v2 v3 v4)):=fun v0 v1 v2 v3 v4=>by
        have hc:=Bs x51 N41 v0 v1 v2 v3 v4
        have hv:=VW.out
        exact⟨(TR.out.chg hc (fun g hg e=>hg.2 e)).mono (fun g hg=>Nat.le_trans hv hg.1),BC.out.trans (hc.below (fun g _ hg=>by omega) BC.out.size)⟩
       clear TR;refine wpAnyH_done (by kernel_rfl) ?_ _
       show Oper.wp _ _ _ _ _ _
       go_simp
       go_wp2_with fail;go_meet
       case rel=>exact⟨_,ra1,ra2,ra3,ra4,rq1,rq2,rq3,rq4,rfl,AL.out.set5 _ _ _ _ _,(FIN.out _ _ _ _ _).1,(FIN.out _ _ _ _ _).2⟩
    case rest=>
    obtain⟨N,ra1,ra2,ra3,ra4,rq1,rq2,rq3,rq4,rfl,XN,TN,BN⟩:=hcut
    have AT:Hid (AO D wc ⟨R.leaf, .slice ra1 R.pairs.length rq1, .slice ra2 R.cuts.length rq2, .slice ra3 R.kids.length rq3, .slice ra4 R.buf.length rq4⟩ R):=TN.out.treeAt
    have HO5:Hid _:=Hg D ⟨R.leaf, .slice ra1 R.pairs.length rq1, .slice ra2 R.cuts.length rq2, .slice ra3 R.kids.length rq3, .slice ra4 R.buf.length rq4⟩ R wc AT.out SZ.out
    obtain⟨d0,d1,d2,d3,d4⟩:=Av XN.out
    clear HG4 HR5 KEEP hS BC TN;generalize R.leaf=rl at *
    generalize R.pairs.length=rn1 at *
    generalize R.cuts.length=rn2 at *
    generalize R.kids.length=rn3 at *
    generalize R.buf.length=rn4 at *
    go_wp2_with fail;refine Calls.mono HO5.out ?_
    rintro e' w6 ⟨rfl,hb6⟩
    have L6:Hid (Below V.heap.size V w6):=Below.and BN.out hb6
    have Rw6:Hid (Ar w6 N #[.bool rl, .slice ra1 rn1 rq1, .slice ra2 rn2 rq2, .slice ra3 rn3 rq3, .slice ra4 rn4 rq4]):=XN.out.step hb6
    have Aw6:Hid (AO D w6 (⟨rl, .slice ra1 rn1 rq1, .slice ra2 rn2 rq2, .slice ra3 rn3 rq3, .slice ra4 rn4 rq4⟩) R):=AT.out.below hb6
    have Sw6:Hid (Ar w6 w.heap.size #[.bool lf, .slice a1 n1 q1, .slice a2 n2 q2, .slice a3 n3 q3, .slice a4 n4 q4]):=SV.out.step L6.out
    have Xw6:Hid (Ar w6 (w.heap.size+2) #[.bool false, .slice none 0 0, .slice none 0 0, .slice none 0 0, .slice none 0 0]):=XV.out.step L6.out
    have Bw6:Hid (Below w.heap.size w w6):=BV.out _ L6.out
    have Zw6:Hid (w.heap.size+3<=w6.heap.size):=Nat.le_trans ZV.out L6.out.size
    clear hb6 HO5 d0 d1 d2 d3 d4 AT L6 XN BN
    cases hor:okT R with
    |false=>
     have ED:Du T (o,k,v)=T:=by rw[EI.out,hor];rfl
     have HCC:Hid _:=HC.out w6 Bw6.out
     obtain⟨c0,c1,c2,c3,c4⟩:=Av Sw6.out
     go_wp2_with fail;refine Calls.mono HCC.out ?_
     rintro e w6z ⟨z,rfl,TY,hbz⟩
     obtain⟨za1,za2,za3,za4,zq1,zq2,zq3,zq4,hyz⟩:=(TY.treeF.treeAt).shape
     subst hyz;have TZ:Hid (AD n w6z (fun g=>w6.heap.size<=g) _ T):=TY
     have BZ:Hid (Below w.heap.size w w6z):=Below.and Bw6.out hbz
     have XZ:Hid (Ar w6z (w.heap.size+2) #[.bool false, .slice none 0 0, .slice none 0 0, .slice none 0 0, .slice none 0 0]):=Xw6.out.step hbz
     have HZ:Hid (w.heap.size+3<=w6.heap.size):=Zw6
     clear TY hbz HCC c0 c1 c2 c3 c4;generalize (T).leaf=zl at *
     generalize (T).pairs.length=zn1 at *
     generalize (T).cuts.length=zn2 at *
     generalize (T).kids.length=zn3 at *
     generalize (T).buf.length=zn4 at *
     obtain⟨⟨m0,m1,m2,m3,m4⟩,k0,k1,k2,k3,k4⟩:=Bu XZ.out
     have FIN:Hid (∀v0 v1 v2 v3 v4,AD (n) (set5 w6z (w.heap.size+2) v0 v1 v2 v3 v4) (fun g=>w.heap.size<=g) (⟨zl, .slice za1 zn1 zq1, .slice za2 zn2 zq2, .slice za3 zn3 zq3, .slice za4 zn4 zq4⟩:TV) (T)/\Below w.heap.size w (set5 w6z (w.heap.size+2) v0 v1 v2 v3 v4)):=fun v0 v1 v2 v3 v4=>by
      have hc:=Bs w6z (w.heap.size+2) v0 v1 v2 v3 v4
      have hz:=HZ.out
      exact⟨(TZ.out.chg hc (fun g hg k=>by omega)).mono (fun g hg=>by omega),BZ.out.trans (hc.below (fun g _ hg=>by omega) BZ.out.size)⟩
     clear TZ XZ;go_wp2;refine bodyPost_ret (v:= .agg #[.bool zl, .slice za1 zn1 zq1, .slice za2 zn2 zq2, .slice za3 zn3 zq3, .slice za4 zn4 zq4]) (by simp[results,Tryz.results13,go_sem,m0,m1,m2,m3,m4]) rfl ⟨⟨zl, .slice za1 zn1 zq1, .slice za2 zn2 zq2, .slice za3 zn3 zq3, .slice za4 zn4 zq4⟩,n,rfl, ?_,(FIN.out _ _ _ _ _).2⟩
     rw[ED]
     exact(FIN.out _ _ _ _ _).1
    |true=>
     have ED:Du T (o,k,v)=R:=by rw[EI.out,hor];rfl
     have HCC:Hid _:=Lk D (⟨rl, .slice ra1 rn1 rq1, .slice ra2 rn2 rq2, .slice ra3 rn3 rq3, .slice ra4 rn4 rq4⟩) R w6 Aw6.out SZ.out
     obtain⟨c0,c1,c2,c3,c4⟩:=Av Rw6.out
     go_wp2_with fail;refine Calls.mono HCC.out ?_
     rintro e w6z ⟨z,rfl,TY,hbz⟩
     obtain⟨za1,za2,za3,za4,zq1,zq2,zq3,zq4,hyz⟩:=(TY.treeF.treeAt).shape
     subst hyz;have TZ:Hid (AD D w6z (fun g=>w6.heap.size<=g) _ R):=TY
     have BZ:Hid (Below w.heap.size w w6z):=Below.and Bw6.out hbz
     have XZ:Hid (Ar w6z (w.heap.size+2) #[.bool false, .slice none 0 0, .slice none 0 0, .slice none 0 0, .slice none 0 0]):=Xw6.out.step hbz
     have HZ:Hid (w.heap.size+3<=w6.heap.size):=Zw6
     clear TY hbz HCC c0 c1 c2 c3 c4;generalize (R).leaf=zl at *
     generalize (R).pairs.length=zn1 at *
     generalize (R).cuts.length=zn2 at *
     generalize (R).kids.length=zn3 at *
     generalize (R).buf.length=zn4 at *
     obtain⟨⟨m0,m1,m2,m3,m4⟩,k0,k1,k2,k3,k4⟩:=Bu XZ.out
     have FIN:Hid (∀v0 v1 v2 v3 v4,AD (D) (set5 w6z (w.heap.size+2) v0 v1 v2 v3 v4) (fun g=>w.heap.size<=g) (⟨zl, .slice za1 zn1 zq1, .slice za2 zn2 zq2, .slice za3 zn3 zq3, .slice za4 zn4 zq4⟩:TV) (R)/\Below w.heap.size w (set5 w6z (w.heap.size+2) v0 v1 v2 v3 v4)):=fun v0 v1 v2 v3 v4=>by
      have hc:=Bs w6z (w.heap.size+2) v0 v1 v2 v3 v4
      have hz:=HZ.out
      exact⟨(TZ.out.chg hc (fun g hg k=>by omega)).mono (fun g hg=>by omega),BZ.out.trans (hc.below (fun g _ hg=>by omega) BZ.out.size)⟩
     clear TZ XZ;go_wp2;refine bodyPost_ret (v:= .agg #[.bool zl, .slice za1 zn1 zq1, .slice za2 zn2 zq2, .slice za3 zn3 zq3, .slice za4 zn4 zq4]) (by simp[results,Tryz.results13,go_sem,m0,m1,m2,m3,m4]) rfl ⟨⟨zl, .slice za1 zn1 zq1, .slice za2 zn2 zq2, .slice za3 zn3 zq3, .slice za4 zn4 zq4⟩,D,rfl, ?_,(FIN.out _ _ _ _ _).2⟩
     rw[ED]
     exact(FIN.out _ _ _ _ _).1
end
end Go.Proofs.YtadmomgdacfgpaaGreat
