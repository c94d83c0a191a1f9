/-
  The law FnInject at any row of bytes.
  What an argument that is a list of pairs holds: opened once into a row of cells.
-/
import Derived.Test.YtnakaabnjelffaaGreatOfInject45
import Derived.Test.YtnakaabnjelffaaGreatOfInject43
import Derived.Test.YtnakaabnjelffaaGreatOfInject42
import Derived.Test.YtnakaabnjelffaaGreatOfInject26
import Derived.Test.YtnakaabnjelffaaGreatOfInject48
import Derived.Test.YtnakaabnjelffaaGreatOfInject1
import Derived.ProofKit
import Derived.Deep.SlicePairs
namespace Go.Proofs.YtnakaabnjelffaaGreat
set_option maxRecDepth 100000
set_option maxHeartbeats 8000000
section
open Go.RowKit

theorem UN {T:Tr} (hok:okT T=true) (hw:wtT T<=120) (m:Int × Int × Int):FE (Dq T m)=doL (FE T) m:=by
 obtain⟨o,k,v⟩:=m
 by_cases h:AK o k v=true/\o≠4
 ·exact(Ul hok hw h.1 h.2).2.2
 ·have e:Dq T (o,k,v)=T:=by
   rw[Dq,if_neg]
   intro h2;exact h ⟨h2.2.1,h2.2.2⟩
  rw[e]
  exact(UQ (by
   by_cases h1:AK o k v=true
   ·exact .inr (.inr (Decidable.byContradiction fun h2=>h ⟨h1,h2⟩))
   ·exact .inr (.inl (by simpa using h1)))).symm
theorem Xz {T:Tr} (h:okT T=false) (m:Int × Int × Int):Dq T m=T:=by
 rw[Dq,if_neg]
 intro h2;rw[h] at h2
 exact absurd h2.1 (by decide)
theorem JH {n k:Nat} {x y:TV} {T:Tr} {w:World} (h:AO n w x T) (h2:AO k w y T):Calls Tryz.prog 7 #[x.val,y.val] w fun e w' =>e= .returned (.bool true)/\Below w.heap.size w w':=
 Jp (n+k) x y T w (h.le (by omega)) (h2.le (by omega))
theorem VN {n:Nat} {w:World} {F:Nat->Prop} {y:TV} {U:Tr} (cs:List Value) (h:cs=y.cells) (ty:Aq n w F y U):Below w.heap.size w (w.alloc (.cells cs.toArray 29))/\Bx (w.alloc (.cells cs.toArray 29)) w.heap.size y.cells/\Aq n (w.alloc (.cells cs.toArray 29)) F y U:=by
 subst h;exact⟨al1 _ _,Bx.start w rfl,ty.below (al1 _ _)⟩
theorem sz8 {T:Tr} (ho:okT T=true):Az 8 T<=1000000:=by
 obtain⟨h1,h2,h3⟩:=Dt ho
 exact Nat.le_trans (JC h1 (by omega)) (by omega)
theorem Wb {T:Tr} (h:Dp T=T∨Jl (Dp T)) (n:Nat):DI n (Dp T)=0∨Dp T=T:=h.elim .inr (fun b=> .inl (b n))

theorem Pk (v:Value) (bs:List Int) (W0:World) (hc:Kd W0 v bs) :
  Calls Tryz.prog 3 #[v] W0 fun e w' =>e= .returned (.bool true)/\Below W0.heap.size W0 w' :=by
 obtain⟨a0,cap0,hv,hle⟩:=hc.1.len
 by_cases hbig:bs.length<=1048576
 case neg=>
  have hd:decide (bs.length>1048576)=true:=decide_eq_true (by omega)
  subst hv;go_enter Tryz.func3,Tryz.ntmps3
  go_wp2_with fail;refine(Tx _ _ _ hle _).mono ?_
  rintro e w0 ⟨rfl,hw0⟩
  subst hw0;rw[hd]
  go_wp2;go_ret;exact⟨rfl,Below.refl _ _⟩
 have hd:decide (bs.length>1048576)=false:=decide_eq_false (by omega)
 have HD:Hid _:=Mt v bs W0 hc hbig
 clear hc;subst hv;go_enter Tryz.func3,Tryz.ntmps3
 go_wp2_with fail;refine(Tx _ _ _ hle _).mono ?_
 rintro e w0 ⟨rfl,hw0⟩
 subst hw0;rw[hd]
 generalize bs.length=bn at *
 go_wp2_with fail;refine Calls.mono HD.out ?_
 rintro e w1 ⟨x,T,o,k,m,rfl,hsz,hwt,TF,hb1⟩
 have SZ:=hid hsz
 have WT:=hid hwt
 have V0:Hid (∀cs,cs=x.cells->Below w0.heap.size w0 ((w1.alloc (.cells cs.toArray 29)).alloc (.cells #[.int .i64 o, .int .i64 k, .int .i64 m] 31))/\Bx ((w1.alloc (.cells cs.toArray 29)).alloc (.cells #[.int .i64 o, .int .i64 k, .int .i64 m] 31)) w1.heap.size x.cells/\He ((w1.alloc (.cells cs.toArray 29)).alloc (.cells #[.int .i64 o, .int .i64 k, .int .i64 m] 31)) (w1.heap.size+1) #[.int .i64 o, .int .i64 k, .int .i64 m]/\Aq 8 ((w1.alloc (.cells cs.toArray 29)).alloc (.cells #[.int .i64 o, .int .i64 k, .int .i64 m] 31)) (fun g=>w0.heap.size<=g) x T):=by
  rintro cs rfl
  have a1:=al1 w1 (.cells x.cells.toArray 29)
  have a2:=al1 (w1.alloc (.cells x.cells.toArray 29)) (.cells #[.int .i64 o, .int .i64 k, .int .i64 m] 31)
  have hm:=heap_alloc_new (w1.alloc (.cells x.cells.toArray 29)) (.cells #[.int .i64 o, .int .i64 k, .int .i64 m] 31)
  rw[World.size_alloc] at hm
  exact⟨Below.and (Below.and hb1 a1) a2,(Bx.start w1 rfl).step a2,hm,(TF.below a1).below a2⟩
 obtain⟨ya1,ya2,ya3,ya4,yq1,yq2,yq3,yq4,hyy⟩:=TF.treeAt.shape
 have hval:x.val= .agg #[.bool T.leaf, .slice ya1 T.pairs.length yq1, .slice ya2 T.cuts.length yq2, .slice ya3 T.kids.length yq3, .slice ya4 T.buf.length yq4]:=by rw[hyy]
 rw[hval]
 clear hsz hwt TF hb1 HD hval;go_upto_region 4 with fail
 refine Cj (fun u=>Below w0.heap.size w0 u/\Bx u w1.heap.size x.cells/\He u (w1.heap.size+1) #[.int .i64 o, .int .i64 k, .int .i64 m]/\Aq 8 u (fun g=>w0.heap.size<=g) x T) (V0.out _ (by rw[hyy];rfl)) ?_
 rintro V hV
 have KA:=hid hV
 clear hV V0 hyy;generalize w1.heap.size=NT at *
 obtain⟨j0,j1,j2⟩:=KA.out.2.2.1.three
 go_wp2_with (refine ldT rfl rfl _ rfl NT rfl x.cells KA.out.2.1 ?_)
 refine Calls.mono (Pz false 8 (by decide) x T _ o k m V ⟨fun e=>(by cases e),KA.out.2.2.2⟩ (by have:=SZ.out;omega) (fun _=>SZ.out)) ?_
 rintro e w2 ⟨y,rfl,ty,b2⟩
 have V1:=hid (fun cs (h:cs=y.cells)=>VN cs h ty.treeF)
 obtain⟨ya1,ya2,ya3,ya4,yq1,yq2,yq3,yq4,hyy⟩:=ty.treeF.treeAt.shape
 have hval:y.val= .agg #[.bool (Tr.leaf (Dq T (o,k,m))), .slice ya1 (Tr.pairs (Dq T (o,k,m))).length yq1, .slice ya2 (Tr.cuts (Dq T (o,k,m))).length yq2, .slice ya3 (Tr.kids (Dq T (o,k,m))).length yq3, .slice ya4 (Tr.buf (Dq T (o,k,m))).length yq4]:=by rw[hyy]
 rw[hval]
 have B2:=hid b2
 clear ty b2 hval j0 j1 j2;go_upto_region 5 with fail
 refine Cj (fun u=>Below w2.heap.size w2 u/\Bx u w2.heap.size y.cells/\Aq 8 u (fun g=>V.heap.size<=g) y (Dq T (o,k,m))) (V1.out _ (by rw[hyy];rfl)) ?_
 rintro V2 hV
 have KE:=hid (fun u (hu:Below V2.heap.size V2 u)=>And.intro (KA.out.2.1.step (Below.and B2.out (Below.and hV.1 hu))) (And.intro (KA.out.2.2.1.step (Below.and B2.out (Below.and hV.1 hu))) (hV.2.1.step hu)))
 have TX:=hid (fun u (hu:Below V2.heap.size V2 u)=>KA.out.2.2.2.below (Below.and B2.out (Below.and hV.1 hu)))
 have TY:=hid (fun u (hu:Below V2.heap.size V2 u)=>hV.2.2.below hu)
 have BA:=hid (fun u (hu:Below V2.heap.size V2 u)=>Below.and KA.out.1 (Below.and B2.out (Below.and hV.1 hu)))
 clear hV V1 hyy KA B2;generalize w2.heap.size=NU at *
 go_cut [31] (fun s wx=>s= .bool false/\Hid (Below V2.heap.size V2 wx))
 case first=>
  refine wp_region_held_drew (S:=(fun u=>Bx u NT x.cells/\He u (NT+1) #[.int .i64 o, .int .i64 k, .int .i64 m]/\Bx u NU y.cells)) (by kernel_rfl) (KE.out _ (Below.refl V2.heap.size V2).drew) (fun hH=> ?_)
  clear hH;have X0:=hid (Below.refl V2.heap.size V2).drew
  generalize V2.drew=u0 at *
  refine tk 0 (oi:=⟨_,_,_,_,_,_⟩) (v:= .agg y.cells.toArray) rfl (by kernel_rfl) (fun _ _ _ h=>h) (yieldsIf_load_mid rfl _ _ rfl NU 0 rfl y.cells _ (fun u hu=>hu.2.2.rg) Tryz.underlying29 rfl (BG y.cells_len)) (KE.out _ X0.out) ?_
  try simp only[Act.put,sA,sB,sC]
  refine tk 1 (oi:=⟨_,_,_,_,_,_⟩) (v:= .agg x.cells.toArray) rfl (by kernel_rfl) (fun _ _ _ h=>h) (yieldsIf_load_mid rfl _ _ rfl NT 0 rfl x.cells _ (fun u hu=>hu.1.rg) Tryz.underlying29 rfl (BG x.cells_len)) (KE.out _ X0.out) ?_
  try simp only[Act.put,sA,sB,sC]
  refine tk 2 (oi:=⟨_,_,_,_,_,_⟩) (v:= ?_) rfl (by kernel_rfl) (fun _ _ _ h=>h) (Or.inl ⟨by rfl, ?_⟩) (KE.out _ X0.out) ?_
  rotate_left
  ·(intro u hu;obtain⟨j0,j1,j2⟩:=hu.2.1.three;go_simp)
   try with_reducible rfl
  try simp only[Act.put,sA,sB,sC]
  refine wpAnyH_ready (rs:=[3]) (by kernel_rfl) (by simp) ?_
  refine AllReadyH.cons (o:=⟨_,_,_,_,_,_⟩) rfl (fun K hK=> ?_) AllReadyH.nil
  refine(if_pos (show Region.wanted _ _=true by kernel_rfl)).mpr ?_
  refine Be 8 [.tmp 20, .tmp 21] #[29,31] rfl (fun args w=>by go_simp) [.agg x.cells.toArray, .agg #[.int .i64 o, .int .i64 k, .int .i64 m]] rfl (Ig 8 x T o k m _ (TX.out _ X0.out).treeAt (by have:=SZ.out;omega)) ?_
  rintro e u1 ⟨s,N,rfl,ts,b1⟩
  have X1:=hid (Below.and X0.out b1)
  have TS:=hid ts.treeF.treeAt
  clear ts b1;refine⟨_,rfl,hK.out _ _ (KE.out _ X1.out) (fun hH=> ?_)⟩
  clear hK K hH;try simp only[Act.put,sA,sB,sC]
  refine wpAnyH_ready (rs:=[4]) (by kernel_rfl) (by simp) ?_
  refine AllReadyH.cons (o:=⟨_,_,_,_,_,_⟩) rfl (fun K hK=> ?_) AllReadyH.nil
  refine(if_pos (show Region.wanted _ _=true by kernel_rfl)).mpr ?_
  refine Be 7 [.tmp 19, .tmp 22] #[29,29] rfl (fun args w=>by go_simp) [.agg y.cells.toArray,s.val] rfl (JH (TY.out _ X1.out).treeAt TS.out) ?_
  rintro e u2 ⟨rfl,b2⟩
  have X2:=hid (Below.and X1.out b2)
  clear b2;refine⟨_,rfl,hK.out _ _ (KE.out _ X2.out) (fun hH=> ?_)⟩
  clear hK K hH;try simp only[Act.put,sA,sB,sC]
  refine tk 5 (oi:=⟨_,_,_,_,_,_⟩) (v:= ?_) rfl (by kernel_rfl) (fun _ _ _ h=>h) (Or.inl ⟨by rfl, ?_⟩) (KE.out _ X2.out) ?_
  rotate_left
  ·(intro u hu;go_simp)
   try with_reducible rfl
  try simp only[Act.put,sA,sB,sC]
  refine tk 6 (oi:=⟨_,_,_,_,_,_⟩) (v:= ?_) rfl (by kernel_rfl) (fun _ _ _ h=>h) (Or.inl ⟨by rfl, ?_⟩) (KE.out _ X2.out) ?_
  rotate_left
  ·(intro u hu;go_simp)
   try with_reducible rfl
  try simp only[Act.put,sA,sB,sC]
  refine tk 7 (oi:=⟨_,_,_,_,_,_⟩) (v:= .agg x.cells.toArray) rfl (by kernel_rfl) (fun _ _ _ h=>h) (yieldsIf_load_mid rfl _ _ rfl NT 0 rfl x.cells _ (fun u hu=>hu.1.rg) Tryz.underlying29 rfl (BG x.cells_len)) (KE.out _ X2.out) ?_
  try simp only[Act.put,sA,sB,sC]
  refine tk 9 (oi:=⟨_,_,_,_,_,_⟩) (v:= .agg x.cells.toArray) rfl (by kernel_rfl) (fun _ _ _ h=>h) (yieldsIf_load_mid rfl _ _ rfl NT 0 rfl x.cells _ (fun u hu=>hu.1.rg) Tryz.underlying29 rfl (BG x.cells_len)) (KE.out _ X2.out) ?_
  try simp only[Act.put,sA,sB,sC]
  refine wpAnyH_ready (rs:=[8]) (by kernel_rfl) (by simp) ?_
  refine AllReadyH.cons (o:=⟨_,_,_,_,_,_⟩) rfl (fun K hK=> ?_) AllReadyH.nil
  refine(if_pos (show Region.wanted _ _=true by kernel_rfl)).mpr ?_
  refine Be 9 [.tmp 26] #[29] rfl (fun args w=>by go_simp) [.agg x.cells.toArray] rfl (BP 8 x T _ (TX.out _ X2.out).treeAt) ?_
  rintro e u3 ⟨rfl,b3⟩
  have X3:=hid (Below.and X2.out b3)
  refine⟨_,rfl,hK.out _ _ (KE.out _ X3.out) (fun hH=> ?_)⟩
  clear hK K hH;try simp only[Act.put,sA,sB,sC]
  refine wpAnyH_ready (rs:=[10]) (by kernel_rfl) (by simp) ?_
  refine AllReadyH.cons (o:=⟨_,_,_,_,_,_⟩) rfl (fun K hK=> ?_) AllReadyH.nil
  refine(if_pos (show Region.wanted _ _=true by kernel_rfl)).mpr ?_
  refine Be 10 [.tmp 28] #[29] rfl (fun args w=>by go_simp) [.agg x.cells.toArray] rfl (Dk 8 x T _ (TX.out _ X3.out).treeAt (by have:=SZ.out;omega)) ?_
  rintro e u4 ⟨rfl,b4⟩
  have X4:=hid (Below.and X3.out b4)
  refine⟨_,rfl,hK.out _ _ (KE.out _ X4.out) (fun hH=> ?_)⟩
  clear hK K hH;try simp only[Act.put,sA,sB,sC]
  refine tk 11 (oi:=⟨_,_,_,_,_,_⟩) (v:= ?_) rfl (by kernel_rfl) (fun _ _ _ h=>h) (Or.inl ⟨by rfl, ?_⟩) (KE.out _ X4.out) ?_
  rotate_left
  ·(intro u hu;go_simp)
   try with_reducible rfl
  try simp only[Act.put,sA,sB,sC]
  refine tk 12 (oi:=⟨_,_,_,_,_,_⟩) (v:= ?_) rfl (by kernel_rfl) (fun _ _ _ h=>h) (Or.inl ⟨by rfl, ?_⟩) (KE.out _ X4.out) ?_
  rotate_left
  ·(intro u hu;go_simp)
   try with_reducible rfl
  try simp only[Act.put,sA,sB,sC]
  refine wpAnyH_done (by kernel_rfl) ?_ _
  go_wp2_with fail;go_meet
  case rel=>exact⟨rfl,X4.out⟩
 case rest=>
  obtain⟨rfl,BC⟩:=hcut
  go_wp2_with (refine ldT rfl rfl _ rfl NT rfl x.cells (KE.out _ BC.out).1 ?_)
  refine Calls.mono (Dk 8 x T _ (TX.out _ BC.out).treeAt (by have:=SZ.out;omega)) ?_
  rintro e w4 ⟨rfl,b4⟩
  have B4:=hid (Below.and BC.out b4)
  clear b4 BC
  cases hok:okT T
  ·have EU:=hid (Xz hok (o,k,m))
   go_wp2_with (first|(refine ldT rfl rfl _ rfl NT rfl x.cells (KE.out _ B4.out).1 ?_)|(refine ldT rfl rfl _ rfl NU rfl y.cells (KE.out _ B4.out).2.2 ?_))
   refine Calls.mono (JH (TX.out _ B4.out).treeAt (EU.out ▸ (TY.out _ B4.out).treeAt)) ?_
   rintro e w5 ⟨rfl,b5⟩
   have FIN:=hid (BA.out _ (Below.and B4.out b5))
   clear b5;go_wp2;go_ret;exact⟨rfl,FIN.out⟩
  ·have HW:=hid (WT.out hok)
   have HOK:=hid hok
   have EM:=hid (UN hok (by have:=WT.out hok;omega) (o,k,m))
   have HU:=hid (Ty hok (o,k,m))
   have ED:=hid (Xy hok)
   have HD:=hid (Ua hok)
   clear hok WT;go_wp2_with (refine ldT rfl rfl _ rfl NT rfl x.cells (KE.out _ B4.out).1 ?_)
   refine Calls.mono (Q8 false 8 (by decide) x T _ w4 ⟨fun e=>(by cases e),TX.out _ B4.out⟩ (by have:=SZ.out;omega) (fun _=>SZ.out)) ?_
   rintro e w5 ⟨z,rfl,tz,b5⟩
   have V1:=hid (fun cs (h:cs=z.cells)=>VN cs h tz.treeF)
   obtain⟨ya1,ya2,ya3,ya4,yq1,yq2,yq3,yq4,hyy⟩:=tz.treeF.treeAt.shape
   have hval:z.val= .agg #[.bool (Tr.leaf (Dp T)), .slice ya1 (Tr.pairs (Dp T)).length yq1, .slice ya2 (Tr.cuts (Dp T)).length yq2, .slice ya3 (Tr.kids (Dp T)).length yq3, .slice ya4 (Tr.buf (Dp T)).length yq4]:=by rw[hyy]
   rw[hval]
   have B5:=hid b5
   clear tz b5 hval;go_upto_region 10 with fail
   refine Cj (fun u=>Below w5.heap.size w5 u/\Bx u w5.heap.size z.cells/\Aq 8 u (fun g=>w4.heap.size<=g) z (Dp T)) (V1.out _ (by rw[hyy];rfl)) ?_
   rintro V3 hV
   have BV:=hid (fun u (hu:Below V3.heap.size V3 u)=>Below.and B4.out (Below.and B5.out (Below.and hV.1 hu)))
   replace KE:=hid (fun u (hu:Below V3.heap.size V3 u)=>And.intro (KE.out _ (BV.out u hu)).1 (And.intro (KE.out _ (BV.out u hu)).2.1 (And.intro (KE.out _ (BV.out u hu)).2.2 (hV.2.1.step hu))))
   replace TX:=hid (fun u (hu:Below V3.heap.size V3 u)=>(TX.out _ (BV.out u hu)).treeAt)
   replace TY:=hid (fun u (hu:Below V3.heap.size V3 u)=>(TY.out _ (BV.out u hu)).treeAt)
   have TZ:=hid (fun u (hu:Below V3.heap.size V3 u)=>(hV.2.2.below hu).treeAt)
   replace BA:=hid (fun u (hu:Below V3.heap.size V3 u)=>BA.out _ (BV.out u hu))
   clear hV V1 hyy B4 B5 BV;generalize w5.heap.size=ND at *
   go_cut [52] (fun s wx=>s= .bool false/\Hid (Below V3.heap.size V3 wx))
   case first=>
    refine wp_region_held_drew (S:=(fun u=>Bx u NT x.cells/\He u (NT+1) #[.int .i64 o, .int .i64 k, .int .i64 m]/\Bx u NU y.cells/\Bx u ND z.cells)) (by kernel_rfl) (KE.out _ (Below.refl V3.heap.size V3).drew) (fun hH=> ?_)
    clear hH;have X0:=hid (Below.refl V3.heap.size V3).drew
    generalize V3.drew=u0 at *
    refine tk 0 (oi:=⟨_,_,_,_,_,_⟩) (v:= .agg z.cells.toArray) rfl (by kernel_rfl) (fun _ _ _ h=>h) (yieldsIf_load_mid rfl _ _ rfl ND 0 rfl z.cells _ (fun u hu=>hu.2.2.2.rg) Tryz.underlying29 rfl (BG z.cells_len)) (KE.out _ X0.out) ?_
    try simp only[Act.put,sA,sB,sC]
    refine tk 1 (oi:=⟨_,_,_,_,_,_⟩) (v:= .agg x.cells.toArray) rfl (by kernel_rfl) (fun _ _ _ h=>h) (yieldsIf_load_mid rfl _ _ rfl NT 0 rfl x.cells _ (fun u hu=>hu.1.rg) Tryz.underlying29 rfl (BG x.cells_len)) (KE.out _ X0.out) ?_
    try simp only[Act.put,sA,sB,sC]
    refine wpAnyH_ready (rs:=[2]) (by kernel_rfl) (by simp) ?_
    refine AllReadyH.cons (o:=⟨_,_,_,_,_,_⟩) rfl (fun K hK=> ?_) AllReadyH.nil
    refine(if_pos (show Region.wanted _ _=true by kernel_rfl)).mpr ?_
    refine Be 12 [.tmp 41] #[29] rfl (fun args w=>by go_simp) [.agg x.cells.toArray] rfl (II 8 x T _ (TX.out _ X0.out) (by have:=SZ.out;omega)) ?_
    rintro e u1 ⟨s,N,rfl,ts,b1⟩
    have X1:=hid (Below.and X0.out b1)
    have TS:=hid ts.treeF.treeAt
    clear ts b1;refine⟨_,rfl,hK.out _ _ (KE.out _ X1.out) (fun hH=> ?_)⟩
    clear hK K hH;try simp only[Act.put,sA,sB,sC]
    refine wpAnyH_ready (rs:=[3]) (by kernel_rfl) (by simp) ?_
    refine AllReadyH.cons (o:=⟨_,_,_,_,_,_⟩) rfl (fun K hK=> ?_) AllReadyH.nil
    refine(if_pos (show Region.wanted _ _=true by kernel_rfl)).mpr ?_
    refine Be 7 [.tmp 40, .tmp 42] #[29,29] rfl (fun args w=>by go_simp) [.agg z.cells.toArray,s.val] rfl (JH (TZ.out _ X1.out) TS.out) ?_
    rintro e u2 ⟨rfl,b2⟩
    have X2:=hid (Below.and X1.out b2)
    clear b2;refine⟨_,rfl,hK.out _ _ (KE.out _ X2.out) (fun hH=> ?_)⟩
    clear hK K hH;try simp only[Act.put,sA,sB,sC]
    refine tk 4 (oi:=⟨_,_,_,_,_,_⟩) (v:= ?_) rfl (by kernel_rfl) (fun _ _ _ h=>h) (Or.inl ⟨by rfl, ?_⟩) (KE.out _ X2.out) ?_
    rotate_left
    ·(intro u hu;go_simp)
     try with_reducible rfl
    try simp only[Act.put,sA,sB,sC]
    refine tk 5 (oi:=⟨_,_,_,_,_,_⟩) (v:= ?_) rfl (by kernel_rfl) (fun _ _ _ h=>h) (Or.inl ⟨by rfl, ?_⟩) (KE.out _ X2.out) ?_
    rotate_left
    ·(intro u hu;go_simp)
     try with_reducible rfl
    try simp only[Act.put,sA,sB,sC]
    refine tk 6 (oi:=⟨_,_,_,_,_,_⟩) (v:= .agg z.cells.toArray) rfl (by kernel_rfl) (fun _ _ _ h=>h) (yieldsIf_load_mid rfl _ _ rfl ND 0 rfl z.cells _ (fun u hu=>hu.2.2.2.rg) Tryz.underlying29 rfl (BG z.cells_len)) (KE.out _ X2.out) ?_
    try simp only[Act.put,sA,sB,sC]
    refine tk 8 (oi:=⟨_,_,_,_,_,_⟩) (v:= .agg x.cells.toArray) rfl (by kernel_rfl) (fun _ _ _ h=>h) (yieldsIf_load_mid rfl _ _ rfl NT 0 rfl x.cells _ (fun u hu=>hu.1.rg) Tryz.underlying29 rfl (BG x.cells_len)) (KE.out _ X2.out) ?_
    try simp only[Act.put,sA,sB,sC]
    refine wpAnyH_ready (rs:=[7]) (by kernel_rfl) (by simp) ?_
    refine AllReadyH.cons (o:=⟨_,_,_,_,_,_⟩) rfl (fun K hK=> ?_) AllReadyH.nil
    refine(if_pos (show Region.wanted _ _=true by kernel_rfl)).mpr ?_
    refine Be 14 [.tmp 46] #[29] rfl (fun args w=>by go_simp) [.agg z.cells.toArray] rfl (Da 8 z (Dp T) _ (TZ.out _ X2.out)) ?_
    rintro e u3 ⟨va,rfl,oa,b3⟩
    have X3:=hid (Below.and X2.out b3)
    rw[ED.out.1] at oa
    have Ra:=hid (Row.of_owns oa)
    clear oa;refine⟨_,rfl,hK.out _ _ (KE.out _ X3.out) (fun hH=> ?_)⟩
    clear hK K hH;try simp only[Act.put,sA,sB,sC]
    refine wpAnyH_ready (rs:=[9]) (by kernel_rfl) (by simp) ?_
    refine AllReadyH.cons (o:=⟨_,_,_,_,_,_⟩) rfl (fun K hK=> ?_) AllReadyH.nil
    refine(if_pos (show Region.wanted _ _=true by kernel_rfl)).mpr ?_
    refine Be 14 [.tmp 48] #[29] rfl (fun args w=>by go_simp) [.agg x.cells.toArray] rfl (Da 8 x T _ (TX.out _ X3.out)) ?_
    rintro e u4 ⟨vb,rfl,ob,b4⟩
    have X4:=hid (Below.and X3.out b4)
    have X34:=hid b4
    have Rb:=hid (Row.of_owns ob)
    clear ob;refine⟨_,rfl,hK.out _ _ (KE.out _ X4.out) (fun hH=> ?_)⟩
    clear hK K hH;try simp only[Act.put,sA,sB,sC]
    refine wpAnyH_ready (rs:=[10]) (by kernel_rfl) (by simp) ?_
    refine AllReadyH.cons (o:=⟨_,_,_,_,_,_⟩) rfl (fun K hK=> ?_) AllReadyH.nil
    refine(if_pos (show Region.wanted _ _=true by kernel_rfl)).mpr ?_
    refine Be 13 [.tmp 47, .tmp 49] #[24,24] rfl (fun args w=>by go_simp) [va,vb] rfl (E9 va vb (FE T) _ (Ra.out.below (X34.out)) Rb.out) ?_
    rintro e u5 ⟨rfl,b5⟩
    have X5:=hid (Below.and X4.out b5)
    refine⟨_,rfl,hK.out _ _ (KE.out _ X5.out) (fun hH=> ?_)⟩
    clear hK K hH;try simp only[Act.put,sA,sB,sC]
    refine tk 11 (oi:=⟨_,_,_,_,_,_⟩) (v:= ?_) rfl (by kernel_rfl) (fun _ _ _ h=>h) (Or.inl ⟨by rfl, ?_⟩) (KE.out _ X5.out) ?_
    rotate_left
    ·(intro u hu;go_simp)
     try with_reducible rfl
    try simp only[Act.put,sA,sB,sC]
    refine tk 12 (oi:=⟨_,_,_,_,_,_⟩) (v:= ?_) rfl (by kernel_rfl) (fun _ _ _ h=>h) (Or.inl ⟨by rfl, ?_⟩) (KE.out _ X5.out) ?_
    rotate_left
    ·(intro u hu;go_simp)
     try with_reducible rfl
    try simp only[Act.put,sA,sB,sC]
    refine wpAnyH_done (by kernel_rfl) ?_ _
    go_wp2_with fail;go_meet
    case rel=>exact⟨rfl,X5.out⟩
   case rest=>
    obtain⟨rfl,BC⟩:=hcut
    go_wp2_with (refine ldT rfl rfl _ rfl NT rfl x.cells (KE.out _ BC.out).1 ?_)
    refine Calls.mono (Gy 8 x T _ (TX.out _ BC.out)) ?_
    rintro e w6 ⟨rfl,b6⟩
    have B6:=hid (Below.and BC.out b6)
    clear b6 BC;by_cases hdp:((Ag T:Nat):Int)>5
    ·have FIN:=hid (BA.out _ B6.out)
     go_wp2;go_ret;exact⟨rfl,FIN.out⟩
    ·go_wp2_with (refine ldT rfl rfl _ rfl ND rfl z.cells (KE.out _ B6.out).2.2.2 ?_)
     refine Calls.mono (JR 8 z (Dp T) _ (TZ.out _ B6.out) (by have:=sz8 HD.out;omega)) ?_
     rintro e w7 ⟨rfl,b7⟩
     rw[if_pos HD.out,if_pos HD.out]
     have B7:=hid (Below.and B6.out b7)
     have DL:=hid (Wb ED.out.2 8)
     clear b7 B6 hdp;generalize Dm 8 (Dp T)=PN at *
     generalize DI 8 (Dp T)=LN at *
     replace KE:=hid (fun u (hu:Below w7.heap.size w7 u)=>KE.out _ (Below.and B7.out hu))
     replace TX:=hid (fun u (hu:Below w7.heap.size w7 u)=>TX.out _ (Below.and B7.out hu))
     replace TY:=hid (fun u (hu:Below w7.heap.size w7 u)=>TY.out _ (Below.and B7.out hu))
     replace TZ:=hid (fun u (hu:Below w7.heap.size w7 u)=>TZ.out _ (Below.and B7.out hu))
     replace BA:=hid (fun u (hu:Below w7.heap.size w7 u)=>BA.out _ (Below.and B7.out hu))
     clear B7;by_cases hl:LN=0
     ·subst hl;go_upto_region 15 with fail
      refine wp_region_held_drew (S:=(fun u=>Bx u NT x.cells/\He u (NT+1) #[.int .i64 o, .int .i64 k, .int .i64 m]/\Bx u NU y.cells/\Bx u ND z.cells)) (by kernel_rfl) (KE.out _ (Below.refl w7.heap.size w7).drew) (fun hH=> ?_)
      clear hH;have X0:=hid (Below.refl w7.heap.size w7).drew
      generalize w7.drew=u0 at *
      refine tk 0 (oi:=⟨_,_,_,_,_,_⟩) (v:= .agg y.cells.toArray) rfl (by kernel_rfl) (fun _ _ _ h=>h) (yieldsIf_load_mid rfl _ _ rfl NU 0 rfl y.cells _ (fun u hu=>hu.2.2.1.rg) Tryz.underlying29 rfl (BG y.cells_len)) (KE.out _ X0.out) ?_
      try simp only[Act.put,sA,sB,sC]
      refine tk 2 (oi:=⟨_,_,_,_,_,_⟩) (v:= .agg x.cells.toArray) rfl (by kernel_rfl) (fun _ _ _ h=>h) (yieldsIf_load_mid rfl _ _ rfl NT 0 rfl x.cells _ (fun u hu=>hu.1.rg) Tryz.underlying29 rfl (BG x.cells_len)) (KE.out _ X0.out) ?_
      try simp only[Act.put,sA,sB,sC]
      refine tk 4 (oi:=⟨_,_,_,_,_,_⟩) (v:= ?_) rfl (by kernel_rfl) (fun _ _ _ h=>h) (Or.inl ⟨by rfl, ?_⟩) (KE.out _ X0.out) ?_
      rotate_left
      ·(intro u hu;obtain⟨j0,j1,j2⟩:=hu.2.1.three;go_simp)
       try with_reducible rfl
      try simp only[Act.put,sA,sB,sC]
      refine wpAnyH_ready (rs:=[1]) (by kernel_rfl) (by simp) ?_
      refine AllReadyH.cons (o:=⟨_,_,_,_,_,_⟩) rfl (fun K hK=> ?_) AllReadyH.nil
      refine(if_pos (show Region.wanted _ _=true by kernel_rfl)).mpr ?_
      refine Be 14 [.tmp 61] #[29] rfl (fun args w=>by go_simp) [.agg y.cells.toArray] rfl (Da 8 y (Dq T (o,k,m)) _ (TY.out _ X0.out)) ?_
      rintro e u1 ⟨va,rfl,oa,b1⟩
      have X1:=hid (Below.and X0.out b1)
      rw[EM.out] at oa
      have Y1:=hid b1
      have Ra:=hid (Row.of_owns oa)
      clear oa;refine⟨_,rfl,hK.out _ _ (KE.out _ X1.out) (fun hH=> ?_)⟩
      clear hK K hH;try simp only[Act.put,sA,sB,sC]
      refine wpAnyH_ready (rs:=[3]) (by kernel_rfl) (by simp) ?_
      refine AllReadyH.cons (o:=⟨_,_,_,_,_,_⟩) rfl (fun K hK=> ?_) AllReadyH.nil
      refine(if_pos (show Region.wanted _ _=true by kernel_rfl)).mpr ?_
      refine Be 14 [.tmp 63] #[29] rfl (fun args w=>by go_simp) [.agg x.cells.toArray] rfl (Da 8 x T _ (TX.out _ X1.out)) ?_
      rintro e u2 ⟨vb,rfl,ob,b2⟩
      have X2:=hid (Below.and X1.out b2)
      have Y2:=hid b2
      have Rb:=hid (Row.of_owns ob)
      clear ob;refine⟨_,rfl,hK.out _ _ (KE.out _ X2.out) (fun hH=> ?_)⟩
      clear hK K hH;try simp only[Act.put,sA,sB,sC]
      refine wpAnyH_ready (rs:=[5]) (by kernel_rfl) (by simp) ?_
      refine AllReadyH.cons (o:=⟨_,_,_,_,_,_⟩) rfl (fun K hK=> ?_) AllReadyH.nil
      refine(if_pos (show Region.wanted _ _=true by kernel_rfl)).mpr ?_
      refine Be 17 [.tmp 64, .tmp 65] #[24,31] rfl (fun args w=>by go_simp) [vb, .agg #[.int .i64 o, .int .i64 k, .int .i64 m]] rfl (IR vb (FE T) o k m _ (Rb.out) (by have:=(Eb T).length;omega)) ?_
      rintro e u3 ⟨vc,rfl,oc,b3⟩
      have X3:=hid (Below.and X2.out b3)
      have RC:=hid (Row.of_owns oc)
      have Y3:=hid b3
      clear oc;refine⟨_,rfl,hK.out _ _ (KE.out _ X3.out) (fun hH=> ?_)⟩
      clear hK K hH;try simp only[Act.put,sA,sB,sC]
      refine wpAnyH_ready (rs:=[6]) (by kernel_rfl) (by simp) ?_
      refine AllReadyH.cons (o:=⟨_,_,_,_,_,_⟩) rfl (fun K hK=> ?_) AllReadyH.nil
      refine(if_pos (show Region.wanted _ _=true by kernel_rfl)).mpr ?_
      refine Be 13 [.tmp 62, .tmp 66] #[24,24] rfl (fun args w=>by go_simp) [va,vc] rfl (E9 va vc (doL (FE T) (o,k,m)) _ (Ra.out.below (Below.and Y2.out Y3.out)) (RC.out)) ?_
      rintro e u4 ⟨rfl,b4⟩
      have X4:=hid (Below.and X3.out b4)
      refine⟨_,rfl,hK.out _ _ (KE.out _ X4.out) (fun hH=> ?_)⟩
      clear hK K hH;try simp only[Act.put,sA,sB,sC]
      refine tk 7 (oi:=⟨_,_,_,_,_,_⟩) (v:= ?_) rfl (by kernel_rfl) (fun _ _ _ h=>h) (Or.inl ⟨by rfl, ?_⟩) (KE.out _ X4.out) ?_
      rotate_left
      ·(intro u hu;go_simp)
       try with_reducible rfl
      try simp only[Act.put,sA,sB,sC]
      refine tk 8 (oi:=⟨_,_,_,_,_,_⟩) (v:= .agg y.cells.toArray) rfl (by kernel_rfl) (fun _ _ _ h=>h) (yieldsIf_load_mid rfl _ _ rfl NU 0 rfl y.cells _ (fun u hu=>hu.2.2.1.rg) Tryz.underlying29 rfl (BG y.cells_len)) (KE.out _ X4.out) ?_
      try simp only[Act.put,sA,sB,sC]
      refine wpAnyH_ready (rs:=[9]) (by kernel_rfl) (by simp) ?_
      refine AllReadyH.cons (o:=⟨_,_,_,_,_,_⟩) rfl (fun K hK=> ?_) AllReadyH.nil
      refine(if_pos (show Region.wanted _ _=true by kernel_rfl)).mpr ?_
      refine Be 9 [.tmp 69] #[29] rfl (fun args w=>by go_simp) [.agg y.cells.toArray] rfl (BP 8 y (Dq T (o,k,m)) _ (TY.out _ X4.out)) ?_
      rintro e u5 ⟨rfl,b5⟩
      have X5:=hid (Below.and X4.out b5)
      rw[HU.out]
      refine⟨_,rfl,hK.out _ _ (KE.out _ X5.out) (fun hH=> ?_)⟩
      clear hK K hH;try simp only[Act.put,sA,sB,sC]
      refine tk 10 (oi:=⟨_,_,_,_,_,_⟩) (v:= ?_) rfl (by kernel_rfl) (fun _ _ _ h=>h) (Or.inl ⟨by rfl, ?_⟩) (KE.out _ X5.out) ?_
      rotate_left
      ·(intro u hu;go_simp)
       try with_reducible rfl
      try simp only[Act.put,sA,sB,sC]
      refine tk 11 (oi:=⟨_,_,_,_,_,_⟩) (v:= ?_) rfl (by kernel_rfl) (fun _ _ _ h=>h) (Or.inl ⟨by rfl, ?_⟩) (KE.out _ X5.out) ?_
      rotate_left
      ·(intro u hu;go_simp)
       try with_reducible rfl
      try simp only[Act.put,sA,sB,sC]
      refine tk 12 (oi:=⟨_,_,_,_,_,_⟩) (v:= .agg z.cells.toArray) rfl (by kernel_rfl) (fun _ _ _ h=>h) (yieldsIf_load_mid rfl _ _ rfl ND 0 rfl z.cells _ (fun u hu=>hu.2.2.2.rg) Tryz.underlying29 rfl (BG z.cells_len)) (KE.out _ X5.out) ?_
      try simp only[Act.put,sA,sB,sC]
      refine wpAnyH_ready (rs:=[13]) (by kernel_rfl) (by simp) ?_
      refine AllReadyH.cons (o:=⟨_,_,_,_,_,_⟩) rfl (fun K hK=> ?_) AllReadyH.nil
      refine(if_pos (show Region.wanted _ _=true by kernel_rfl)).mpr ?_
      refine Be 9 [.tmp 73] #[29] rfl (fun args w=>by go_simp) [.agg z.cells.toArray] rfl (BP 8 z (Dp T) _ (TZ.out _ X5.out)) ?_
      rintro e u6 ⟨rfl,b6⟩
      have X6:=hid (Below.and X5.out b6)
      rw[HD.out]
      refine⟨_,rfl,hK.out _ _ (KE.out _ X6.out) (fun hH=> ?_)⟩
      clear hK K hH;try simp only[Act.put,sA,sB,sC]
      refine tk 14 (oi:=⟨_,_,_,_,_,_⟩) (v:= ?_) rfl (by kernel_rfl) (fun _ _ _ h=>h) (Or.inl ⟨by rfl, ?_⟩) (KE.out _ X6.out) ?_
      rotate_left
      ·(intro u hu;go_simp)
       try with_reducible rfl
      try simp only[Act.put,sA,sB,sC]
      refine tk 15 (oi:=⟨_,_,_,_,_,_⟩) (v:= ?_) rfl (by kernel_rfl) (fun _ _ _ h=>h) (Or.inl ⟨by rfl, ?_⟩) (KE.out _ X6.out) ?_
      rotate_left
      ·(intro u hu;go_simp)
       try with_reducible rfl
      try simp only[Act.put,sA,sB,sC]
      refine tk 16 (oi:=⟨_,_,_,_,_,_⟩) (v:= ?_) rfl (by kernel_rfl) (fun _ _ _ h=>h) (Or.inl ⟨by rfl, ?_⟩) (KE.out _ X6.out) ?_
      rotate_left
      ·(intro u hu;go_simp)
       try with_reducible rfl
      try simp only[Act.put,sA,sB,sC]
      refine tk 17 (oi:=⟨_,_,_,_,_,_⟩) (v:= ?_) rfl (by kernel_rfl) (fun _ _ _ h=>h) (Or.inl ⟨by rfl, ?_⟩) (KE.out _ X6.out) ?_
      rotate_left
      ·(intro u hu;go_simp)
       try with_reducible rfl
      try simp only[Act.put,sA,sB,sC]
      refine tk 18 (oi:=⟨_,_,_,_,_,_⟩) (v:= ?_) rfl (by kernel_rfl) (fun _ _ _ h=>h) (Or.inl ⟨by rfl, ?_⟩) (KE.out _ X6.out) ?_
      rotate_left
      ·(intro u hu;go_simp)
       try with_reducible rfl
      try simp only[Act.put,sA,sB,sC]
      refine tk 19 (oi:=⟨_,_,_,_,_,_⟩) (v:=undef) rfl (by kernel_rfl) (fun _ _ _ h=>h) (Or.inr ⟨by rfl,rfl⟩) (KE.out _ X6.out) ?_
      try simp only[Act.put,sA,sB,sC]
      refine tk 20 (oi:=⟨_,_,_,_,_,_⟩) (v:=undef) rfl (by kernel_rfl) (fun _ _ _ h=>h) (Or.inr ⟨by rfl,rfl⟩) (KE.out _ X6.out) ?_
      try simp only[Act.put,sA,sB,sC]
      refine tk 21 (oi:=⟨_,_,_,_,_,_⟩) (v:=undef) rfl (by kernel_rfl) (fun _ _ _ h=>h) (Or.inr ⟨by rfl,rfl⟩) (KE.out _ X6.out) ?_
      try simp only[Act.put,sA,sB,sC]
      refine tk 22 (oi:=⟨_,_,_,_,_,_⟩) (v:= ?_) rfl (by kernel_rfl) (fun _ _ _ h=>h) (Or.inl ⟨by rfl, ?_⟩) (KE.out _ X6.out) ?_
      rotate_left
      ·(intro u hu;go_simp)
       try with_reducible rfl
      try simp only[Act.put,sA,sB,sC]
      refine tk 23 (oi:=⟨_,_,_,_,_,_⟩) (v:= ?_) rfl (by kernel_rfl) (fun _ _ _ h=>h) (Or.inl ⟨by rfl, ?_⟩) (KE.out _ X6.out) ?_
      rotate_left
      ·(intro u hu;go_simp)
       try with_reducible rfl
      try simp only[Act.put,sA,sB,sC]
      refine tk 24 (oi:=⟨_,_,_,_,_,_⟩) (v:= ?_) rfl (by kernel_rfl) (fun _ _ _ h=>h) (Or.inl ⟨by rfl, ?_⟩) (KE.out _ X6.out) ?_
      rotate_left
      ·(intro u hu;go_simp)
       try with_reducible rfl
      try simp only[Act.put,sA,sB,sC]
      refine wpAnyH_done (by kernel_rfl) ?_ _
      go_wp2;go_ret;exact⟨rfl,BA.out _ X6.out⟩
     ·have ET:=hid (DL.out.resolve_left hl)
      have hz:(((LN:Nat):Int)==0)=false:=by simp;omega
      clear hl DL;go_upto_region 15 with fail
      refine wp_region_held_drew (S:=(fun u=>Bx u NT x.cells/\He u (NT+1) #[.int .i64 o, .int .i64 k, .int .i64 m]/\Bx u NU y.cells/\Bx u ND z.cells)) (by kernel_rfl) (KE.out _ (Below.refl w7.heap.size w7).drew) (fun hH=> ?_)
      clear hH;have X0:=hid (Below.refl w7.heap.size w7).drew
      generalize w7.drew=u0 at *
      refine tk 0 (oi:=⟨_,_,_,_,_,_⟩) (v:= .agg y.cells.toArray) rfl (by kernel_rfl) (fun _ _ _ h=>h) (yieldsIf_load_mid rfl _ _ rfl NU 0 rfl y.cells _ (fun u hu=>hu.2.2.1.rg) Tryz.underlying29 rfl (BG y.cells_len)) (KE.out _ X0.out) ?_
      try simp only[Act.put,sA,sB,sC]
      refine tk 2 (oi:=⟨_,_,_,_,_,_⟩) (v:= .agg x.cells.toArray) rfl (by kernel_rfl) (fun _ _ _ h=>h) (yieldsIf_load_mid rfl _ _ rfl NT 0 rfl x.cells _ (fun u hu=>hu.1.rg) Tryz.underlying29 rfl (BG x.cells_len)) (KE.out _ X0.out) ?_
      try simp only[Act.put,sA,sB,sC]
      refine tk 4 (oi:=⟨_,_,_,_,_,_⟩) (v:= ?_) rfl (by kernel_rfl) (fun _ _ _ h=>h) (Or.inl ⟨by rfl, ?_⟩) (KE.out _ X0.out) ?_
      rotate_left
      ·(intro u hu;obtain⟨j0,j1,j2⟩:=hu.2.1.three;go_simp)
       try with_reducible rfl
      try simp only[Act.put,sA,sB,sC]
      refine wpAnyH_ready (rs:=[1]) (by kernel_rfl) (by simp) ?_
      refine AllReadyH.cons (o:=⟨_,_,_,_,_,_⟩) rfl (fun K hK=> ?_) AllReadyH.nil
      refine(if_pos (show Region.wanted _ _=true by kernel_rfl)).mpr ?_
      refine Be 14 [.tmp 61] #[29] rfl (fun args w=>by go_simp) [.agg y.cells.toArray] rfl (Da 8 y (Dq T (o,k,m)) _ (TY.out _ X0.out)) ?_
      rintro e u1 ⟨va,rfl,oa,b1⟩
      have X1:=hid (Below.and X0.out b1)
      rw[EM.out] at oa
      have Y1:=hid b1
      have Ra:=hid (Row.of_owns oa)
      clear oa;refine⟨_,rfl,hK.out _ _ (KE.out _ X1.out) (fun hH=> ?_)⟩
      clear hK K hH;try simp only[Act.put,sA,sB,sC]
      refine wpAnyH_ready (rs:=[3]) (by kernel_rfl) (by simp) ?_
      refine AllReadyH.cons (o:=⟨_,_,_,_,_,_⟩) rfl (fun K hK=> ?_) AllReadyH.nil
      refine(if_pos (show Region.wanted _ _=true by kernel_rfl)).mpr ?_
      refine Be 14 [.tmp 63] #[29] rfl (fun args w=>by go_simp) [.agg x.cells.toArray] rfl (Da 8 x T _ (TX.out _ X1.out)) ?_
      rintro e u2 ⟨vb,rfl,ob,b2⟩
      have X2:=hid (Below.and X1.out b2)
      have Y2:=hid b2
      have Rb:=hid (Row.of_owns ob)
      clear ob;refine⟨_,rfl,hK.out _ _ (KE.out _ X2.out) (fun hH=> ?_)⟩
      clear hK K hH;try simp only[Act.put,sA,sB,sC]
      refine wpAnyH_ready (rs:=[5]) (by kernel_rfl) (by simp) ?_
      refine AllReadyH.cons (o:=⟨_,_,_,_,_,_⟩) rfl (fun K hK=> ?_) AllReadyH.nil
      refine(if_pos (show Region.wanted _ _=true by kernel_rfl)).mpr ?_
      refine Be 17 [.tmp 64, .tmp 65] #[24,31] rfl (fun args w=>by go_simp) [vb, .agg #[.int .i64 o, .int .i64 k, .int .i64 m]] rfl (IR vb (FE T) o k m _ (Rb.out) (by have:=(Eb T).length;omega)) ?_
      rintro e u3 ⟨vc,rfl,oc,b3⟩
      have X3:=hid (Below.and X2.out b3)
      have RC:=hid (Row.of_owns oc)
      have Y3:=hid b3
      clear oc;refine⟨_,rfl,hK.out _ _ (KE.out _ X3.out) (fun hH=> ?_)⟩
      clear hK K hH;try simp only[Act.put,sA,sB,sC]
      refine wpAnyH_ready (rs:=[6]) (by kernel_rfl) (by simp) ?_
      refine AllReadyH.cons (o:=⟨_,_,_,_,_,_⟩) rfl (fun K hK=> ?_) AllReadyH.nil
      refine(if_pos (show Region.wanted _ _=true by kernel_rfl)).mpr ?_
      refine Be 13 [.tmp 62, .tmp 66] #[24,24] rfl (fun args w=>by go_simp) [va,vc] rfl (E9 va vc (doL (FE T) (o,k,m)) _ (Ra.out.below (Below.and Y2.out Y3.out)) (RC.out)) ?_
      rintro e u4 ⟨rfl,b4⟩
      have X4:=hid (Below.and X3.out b4)
      refine⟨_,rfl,hK.out _ _ (KE.out _ X4.out) (fun hH=> ?_)⟩
      clear hK K hH;try simp only[Act.put,sA,sB,sC]
      refine tk 7 (oi:=⟨_,_,_,_,_,_⟩) (v:= ?_) rfl (by kernel_rfl) (fun _ _ _ h=>h) (Or.inl ⟨by rfl, ?_⟩) (KE.out _ X4.out) ?_
      rotate_left
      ·(intro u hu;go_simp)
       try with_reducible rfl
      try simp only[Act.put,sA,sB,sC]
      refine tk 8 (oi:=⟨_,_,_,_,_,_⟩) (v:= .agg y.cells.toArray) rfl (by kernel_rfl) (fun _ _ _ h=>h) (yieldsIf_load_mid rfl _ _ rfl NU 0 rfl y.cells _ (fun u hu=>hu.2.2.1.rg) Tryz.underlying29 rfl (BG y.cells_len)) (KE.out _ X4.out) ?_
      try simp only[Act.put,sA,sB,sC]
      refine wpAnyH_ready (rs:=[9]) (by kernel_rfl) (by simp) ?_
      refine AllReadyH.cons (o:=⟨_,_,_,_,_,_⟩) rfl (fun K hK=> ?_) AllReadyH.nil
      refine(if_pos (show Region.wanted _ _=true by kernel_rfl)).mpr ?_
      refine Be 9 [.tmp 69] #[29] rfl (fun args w=>by go_simp) [.agg y.cells.toArray] rfl (BP 8 y (Dq T (o,k,m)) _ (TY.out _ X4.out)) ?_
      rintro e u5 ⟨rfl,b5⟩
      have X5:=hid (Below.and X4.out b5)
      rw[HU.out]
      refine⟨_,rfl,hK.out _ _ (KE.out _ X5.out) (fun hH=> ?_)⟩
      clear hK K hH;try simp only[Act.put,sA,sB,sC]
      refine tk 10 (oi:=⟨_,_,_,_,_,_⟩) (v:= ?_) rfl (by kernel_rfl) (fun _ _ _ h=>h) (Or.inl ⟨by rfl, ?_⟩) (KE.out _ X5.out) ?_
      rotate_left
      ·(intro u hu;go_simp)
       try with_reducible rfl
      try simp only[Act.put,sA,sB,sC]
      refine tk 11 (oi:=⟨_,_,_,_,_,_⟩) (v:= ?_) rfl (by kernel_rfl) (fun _ _ _ h=>h) (Or.inl ⟨by rfl, ?_⟩) (KE.out _ X5.out) ?_
      rotate_left
      ·(intro u hu;go_simp)
       try with_reducible rfl
      try simp only[Act.put,sA,sB,sC]
      refine tk 12 (oi:=⟨_,_,_,_,_,_⟩) (v:= .agg z.cells.toArray) rfl (by kernel_rfl) (fun _ _ _ h=>h) (yieldsIf_load_mid rfl _ _ rfl ND 0 rfl z.cells _ (fun u hu=>hu.2.2.2.rg) Tryz.underlying29 rfl (BG z.cells_len)) (KE.out _ X5.out) ?_
      try simp only[Act.put,sA,sB,sC]
      refine wpAnyH_ready (rs:=[13]) (by kernel_rfl) (by simp) ?_
      refine AllReadyH.cons (o:=⟨_,_,_,_,_,_⟩) rfl (fun K hK=> ?_) AllReadyH.nil
      refine(if_pos (show Region.wanted _ _=true by kernel_rfl)).mpr ?_
      refine Be 9 [.tmp 73] #[29] rfl (fun args w=>by go_simp) [.agg z.cells.toArray] rfl (BP 8 z (Dp T) _ (TZ.out _ X5.out)) ?_
      rintro e u6 ⟨rfl,b6⟩
      have X6:=hid (Below.and X5.out b6)
      rw[HD.out]
      refine⟨_,rfl,hK.out _ _ (KE.out _ X6.out) (fun hH=> ?_)⟩
      clear hK K hH;try simp only[Act.put,sA,sB,sC]
      refine tk 14 (oi:=⟨_,_,_,_,_,_⟩) (v:= ?_) rfl (by kernel_rfl) (fun _ _ _ h=>h) (Or.inl ⟨by rfl, ?_⟩) (KE.out _ X6.out) ?_
      rotate_left
      ·(intro u hu;go_simp)
       try with_reducible rfl
      try simp only[Act.put,sA,sB,sC]
      refine tk 15 (oi:=⟨_,_,_,_,_,_⟩) (v:= ?_) rfl (by kernel_rfl) (fun _ _ _ h=>h) (Or.inl ⟨by rfl, ?_⟩) (KE.out _ X6.out) ?_
      rotate_left
      ·(intro u hu;go_simp)
       try with_reducible rfl
      try simp only[Act.put,sA,sB,sC]
      refine tk 16 (oi:=⟨_,_,_,_,_,_⟩) (v:= ?_) rfl (by kernel_rfl) (fun _ _ _ h=>h) (Or.inl ⟨by rfl, ?_⟩) (KE.out _ X6.out) ?_
      rotate_left
      ·(intro u hu;go_simp)
       try with_reducible rfl
      try simp only[Act.put,sA,sB,sC]
      refine tk 17 (oi:=⟨_,_,_,_,_,_⟩) (v:= ?_) rfl (by kernel_rfl) (fun _ _ _ h=>h) (Or.inl ⟨by rfl, ?_⟩) (KE.out _ X6.out) ?_
      rotate_left
      ·(intro u hu;go_simp)
       try with_reducible rfl
      try simp only[Act.put,sA,sB,sC]
      refine tk 18 (oi:=⟨_,_,_,_,_,_⟩) (v:= ?_) rfl (by kernel_rfl) (fun _ _ _ h=>h) (Or.inl ⟨by rfl, ?_⟩) (KE.out _ X6.out) ?_
      rotate_left
      ·(intro u hu;go_simp)
       try with_reducible rfl
      try simp only[Act.put,sA,sB,sC]
      refine tk 19 (oi:=⟨_,_,_,_,_,_⟩) (v:= .agg z.cells.toArray) rfl (by kernel_rfl) (fun _ _ _ h=>h) (yieldsIf_load_mid rfl _ _ rfl ND 0 rfl z.cells _ (fun u hu=>hu.2.2.2.rg) Tryz.underlying29 rfl (BG z.cells_len)) (KE.out _ X6.out) ?_
      try simp only[Act.put,sA,sB,sC]
      refine tk 20 (oi:=⟨_,_,_,_,_,_⟩) (v:= .agg x.cells.toArray) rfl (by kernel_rfl) (fun _ _ _ h=>h) (yieldsIf_load_mid rfl _ _ rfl NT 0 rfl x.cells _ (fun u hu=>hu.1.rg) Tryz.underlying29 rfl (BG x.cells_len)) (KE.out _ X6.out) ?_
      try simp only[Act.put,sA,sB,sC]
      refine wpAnyH_ready (rs:=[21]) (by kernel_rfl) (by simp) ?_
      refine AllReadyH.cons (o:=⟨_,_,_,_,_,_⟩) rfl (fun K hK=> ?_) AllReadyH.nil
      refine(if_pos (show Region.wanted _ _=true by kernel_rfl)).mpr ?_
      refine Be 7 [.tmp 80, .tmp 81] #[29,29] rfl (fun args w=>by go_simp) [.agg z.cells.toArray, .agg x.cells.toArray] rfl (JH (ET.out ▸ TZ.out _ X6.out) (TX.out _ X6.out)) ?_
      rintro e u7 ⟨rfl,b7⟩
      have X7:=hid (Below.and X6.out b7)
      refine⟨_,rfl,hK.out _ _ (KE.out _ X7.out) (fun hH=> ?_)⟩
      clear hK K hH;try simp only[Act.put,sA,sB,sC]
      refine tk 22 (oi:=⟨_,_,_,_,_,_⟩) (v:= ?_) rfl (by kernel_rfl) (fun _ _ _ h=>h) (Or.inl ⟨by rfl, ?_⟩) (KE.out _ X7.out) ?_
      rotate_left
      ·(intro u hu;go_simp)
       try with_reducible rfl
      try simp only[Act.put,sA,sB,sC]
      refine tk 23 (oi:=⟨_,_,_,_,_,_⟩) (v:= ?_) rfl (by kernel_rfl) (fun _ _ _ h=>h) (Or.inl ⟨by rfl, ?_⟩) (KE.out _ X7.out) ?_
      rotate_left
      ·(intro u hu;go_simp)
       try with_reducible rfl
      try simp only[Act.put,sA,sB,sC]
      refine tk 24 (oi:=⟨_,_,_,_,_,_⟩) (v:= ?_) rfl (by kernel_rfl) (fun _ _ _ h=>h) (Or.inl ⟨by rfl, ?_⟩) (KE.out _ X7.out) ?_
      rotate_left
      ·(intro u hu;go_simp)
       try with_reducible rfl
      try simp only[Act.put,sA,sB,sC]
      refine wpAnyH_done (by kernel_rfl) ?_ _
      go_wp2;go_ret;exact⟨rfl,BA.out _ X7.out⟩
end
section
open Go.ChangeShapes Go.WideShapes Go.ChangeAt Go.RowKit Go.Deep

theorem Tryz.own:ownKnob Tryz.prog.godebug=none:=by kernel_rfl
theorem Tryz.laidOut:laidOutB Tryz.prog=true:=by kernel_rfl
end
end Go.Proofs.YtnakaabnjelffaaGreat
