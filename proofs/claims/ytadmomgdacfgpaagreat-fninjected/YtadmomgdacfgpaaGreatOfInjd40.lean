/-
  The law FnInjected at any row of bytes.
  A call of a function in a region that draws its order.
-/
import Derived.Test.YtadmomgdacfgpaaGreatOfInjd4
import Derived.Test.YtadmomgdacfgpaaGreatOfInjd38
import Derived.Test.YtadmomgdacfgpaaGreatOfInjd39
import Derived.Deep.RegionHeld3
import Derived.Test.YtadmomgdacfgpaaGreatOfInjd18
namespace Go.Proofs.YtadmomgdacfgpaaGreat
set_option maxRecDepth 100000
set_option maxHeartbeats 8000000
section
open Go.RowKit

theorem Mq {T:Tr} (hok:okT T=true) (hw:wtT T<=120) (m:Int × Int × Int) :
  okT (Du T m)=true/\wtT (Du T m)<=wtT T+1/\Dt (Du T m)=doL (Dt T) m:=by
 obtain⟨o,k,v⟩:=m
 by_cases h:AJ o k v=true/\o≠4
 ·exact VE hok hw h.1 h.2
 ·have e:Du T (o,k,v)=T:=by
   rw[Du,if_neg]
   intro h2;exact h ⟨h2.2.1,h2.2.2⟩
  have e2:doL (Dt T) (o,k,v)=Dt T:=Td (by
   by_cases h1:AJ o k v=true
   ·exact .inr (.inr (Decidable.byContradiction fun h2=>h ⟨h1,h2⟩))
   ·exact .inr (.inl (by simpa using h1)))
  rw[e,e2]
  exact⟨hok,Nat.le_succ _,rfl⟩
theorem Uv:Dt nT=[]:=by unfold Dt;rw[if_pos RE];rfl
theorem Wf:wtT nT=1:=by decide

theorem LB (II:∀(x:TV) (T:Tr) (F:Nat->Prop) (o k v:Int) (u:World),AD 8 u F x T->AU 8 T<=1048576->Calls Tryz.prog 9 #[x.val, .agg #[.int .i64 o, .int .i64 k, .int .i64 v]] u fun e w' =>∃y:TV,e= .returned y.val/\AD 8 w' (fun g=>u.heap.size<=g) y (Du T (o,k,v))/\Below u.heap.size u w')
  (SI:∀(x:TV) (T:Tr) (F:Nat->Prop) (o k v:Int) (u:World),AD 8 u F x T->AU 8 T<=1048576->Calls Tryz.prog 13 #[x.val, .agg #[.int .i64 o, .int .i64 k, .int .i64 v]] u fun e w' =>∃(y:TV) (N:Nat),e= .returned y.val/\AD N w' (fun g=>u.heap.size<=g) y (Du T (o,k,v))/\Below u.heap.size u w')
  (TM:∀(x:TV) (T:Tr) (u:World),AO 8 u x T->Calls Tryz.prog 12 #[x.val] u fun e w' =>∃v',e= .returned v' ∧w'.ownsRow u.heap.size 41 2 v' (Dt T).length (Aq (Dt T))/\Below u.heap.size u w')
  (v:Value) (bs:List Int) (W0:World) (hc:JH W0 v bs) :
  Calls Tryz.prog 3 #[v] W0 fun e w' =>e= .returned (.bool true)/\Below W0.heap.size W0 w' :=by
 obtain⟨⟨a0,b0,off0,cap0,hv,hcap0,hmax0,_⟩,_⟩:=id hc
 unfold maxLen at hmax0;have hle:bs.length<=9223372036854775807:=by omega
 by_cases hbig:bs.length<=1048576
 ·have hd:decide (bs.length>1048576)=false:=decide_eq_false (by omega)
  have HD:Hid _:=Kc v bs W0 hc hbig
  have IJ:=AY II
  have SJ:=AY SI
  have TMM:=AY TM
  clear II SI TM;clear hc;subst hv;go_enter Tryz.func3,Tryz.ntmps3
  go_wp2_with fail;refine(Ry _ _ _ hle _).mono ?_
  rintro e w0 ⟨rfl,hw0⟩
  subst hw0;rw[hd]
  generalize bs.length=bn at *
  go_wp2_with fail;refine Calls.mono HD.out ?_
  rintro e w1 ⟨vl,ms,rfl,hl,ow,hb1⟩
  obtain⟨la,lb,lo,lcap,hvl,hlc,hlm,hla,k0,k1,k2⟩:=(Row.of_owns ow).msgs
  unfold maxLen at hlm;subst hvl;have KM:=AY (fun j u (hu:Below w1.heap.size w1 u) (hj:j<ms.length)=>And.intro ((hu.cell (Aa (k0 j hj))).trans (k0 j hj)) (And.intro ((hu.cell (Aa (k1 j hj))).trans (k1 j hj)) ((hu.cell (Aa (k2 j hj))).trans (k2 j hj))))
  have HA:=AY hla
  have BA:=AY hb1
  clear k0 k1 k2 ow hb1 HD hla;generalize ms.length=L at *
  go_wp2_with fail;refine(Sb _).mono ?_
  rintro e w2 ⟨rfl,b2⟩
  have na:=al1 w2 (.cells #[.bool true, .slice none 0 0, .slice none 0 0, .slice none 0 0, .slice none 0 0] 30)
  have XN:=AY (Ar.start w2 #[.bool true, .slice none 0 0, .slice none 0 0, .slice none 0 0, .slice none 0 0])
  have B1:=AY (Below.and b2 na)
  have zm:Hid (w2.heap.size<(w2.alloc (.cells #[.bool true, .slice none 0 0, .slice none 0 0, .slice none 0 0, .slice none 0 0] 30)).heap.size):=by show _<_;simp
  have zn:=AY b2.size
  clear b2 na;go_upto_region 5 with fail
  generalize w2.alloc (.cells #[.bool true, .slice none 0 0, .slice none 0 0, .slice none 0 0, .slice none 0 0] 30)=W at *
  generalize w2.heap.size=NT at *
  have EM:Hid ((W.alloc (.cells #[] 41)).ownsRow (NT+1) 41 2 (.slice (some ⟨W.heap.size,0,none⟩) 0 0) 0 []):=AK (De W W.heap.size 41 2 (Nat.le_refl _)) zm.out
  have BW:=AY (al1 W (.cells #[] 41))
  go_upto_region 6 with fail
  generalize W.alloc (.cells #[] 41)=V at *
  replace XN:=AY (XN.out.step BW.out)
  replace B1:=AY (Below.and B1.out BW.out)
  replace zm:=AY (Nat.lt_of_lt_of_le zm.out BW.out.size)
  clear BW;generalize Value.slice (some ⟨W.heap.size,0,none⟩) 0 0=mv0 at *
  go_wp2;go_loopw [5,6] (fun mv i wr=>∃(j:Nat) (yl:Bool) (y1 y2 y3 y4:Option Addr × Nat × Nat) (T:Tr),i= .int .i64 j/\j<=L/\Hid (okT T=true/\wtT T<=1+j)/\Hid (wr.ownsRow (NT+1) 41 2 mv (Dt T).length (Aq (Dt T)))/\Hid (AD 8 wr (fun g=>NT<g) (⟨yl, .slice y1.1 y1.2.1 y1.2.2, .slice y2.1 y2.2.1 y2.2.2, .slice y3.1 y3.2.1 y3.2.2, .slice y4.1 y4.2.1 y4.2.2⟩:TV) T)/\Hid (Ar wr NT #[.bool yl, .slice y1.1 y1.2.1 y1.2.2, .slice y2.1 y2.2.1 y2.2.2, .slice y3.1 y3.2.1 y3.2.2, .slice y4.1 y4.2.1 y4.2.2])/\Hid (Below w1.heap.size w1 wr)/\Hid (NT<wr.heap.size))
   (fun _ i _=>L-(intOf i).toNat)
  case atStart=>exact⟨0,true,(none,0,0),(none,0,0),(none,0,0),(none,0,0),nT,rfl,Nat.zero_le _,⟨RE,by rw[Wf];exact Nat.le_refl _⟩,by show World.ownsRow _ _ _ _ _ _ _;rw[Uv];exact EM.out,Wc true _ _,XN.out,B1.out,zm.out⟩
  case round=>
   obtain⟨j,yl,y1,y2,y3,y4,T,rfl,hj,OK,OM,TD,XT,BW,ZN⟩:=hrel
   clear XN B1 zm EM;by_cases hgo:j<L/\Al T<=5
   ·obtain⟨hlt,hdp⟩:=hgo
    have hal:=HA.out (by omega)
    subst hal;have hjL:(j:Int)<(L:Int):=by omega
    obtain⟨c0,c1,c2,c3,c4⟩:=Av XT.out
    have TA:=AY TD.out.treeF.treeAt
    go_wp2_with fail;refine(Et 8 (⟨yl, .slice y1.1 y1.2.1 y1.2.2, .slice y2.1 y2.2.1 y2.2.2, .slice y3.1 y3.2.1 y3.2.2, .slice y4.1 y4.2.1 y4.2.2⟩:TV) T _ TA.out).mono ?_
    rintro e w3 ⟨rfl,b3⟩
    replace XT:=AY (XT.out.step b3)
    replace TD:=AY (TD.out.below b3)
    replace OM:=AY (Az OM.out (Chg.of_below (F:=fun _=>False) b3) (fun _ _ h=>h))
    replace BW:=AY (Below.and BW.out b3)
    replace ZN:=AY (Nat.lt_of_lt_of_le ZN.out b3.size)
    clear b3 c0 c1 c2 c3 c4 TA;have hdp2:¬((Al T:Nat):Int)>5:=by omega
    go_upto_region 10 with fail
    clear hdp2;have ST:=AY (Mq OK.out.1 (by have:=OK.out.2;omega) (mO ms j,mK ms j,mV ms j))
    have ML:=AY (Ho T).length
    have RF:=AY ((Below.refl w3.heap.size w3).drew)
    have KE:=AY (fun u (hu:Below w3.heap.size w3 u)=>And.intro (XT.out.step hu) (KM.out j u (Below.and BW.out hu) hlt))
    refine AV (fun u=>Ar u NT #[.bool yl, .slice y1.1 y1.2.1 y1.2.2, .slice y2.1 y2.2.1 y2.2.2, .slice y3.1 y3.2.1 y3.2.2, .slice y4.1 y4.2.1 y4.2.2]/\(u.cell? ⟨lb,lo+j*3,none⟩=some (.int .i64 (mO ms j))/\u.cell? ⟨lb,lo+j*3+1,none⟩=some (.int .i64 (mK ms j))/\u.cell? ⟨lb,lo+j*3+2,none⟩=some (.int .i64 (mV ms j)))) [_,_,_,_,_,_] _ rfl (by kernel_rfl) (by kernel_rfl) ?_
    refine tk 0 (oi:=⟨_,_,_,_,_,_⟩) (v:= ?_) rfl (by kernel_rfl) (fun _ _ _ h=>h) (Or.inl ⟨by rfl, ?_⟩) (KE.out _ RF.out) ?_
    rotate_left
    ·(intro u hu;obtain⟨c0,c1,c2,c3,c4⟩:=Av hu.1;obtain⟨m0,m1,m2⟩:=hu.2;go_simp)
     try with_reducible rfl
    try simp only[Act.put,sA,sB,sC]
    refine tk 1 (oi:=⟨_,_,_,_,_,_⟩) (v:= ?_) rfl (by kernel_rfl) (fun _ _ _ h=>h) (Or.inl ⟨by rfl, ?_⟩) (KE.out _ RF.out) ?_
    rotate_left
    ·(intro u hu;obtain⟨c0,c1,c2,c3,c4⟩:=Av hu.1;obtain⟨m0,m1,m2⟩:=hu.2;go_simp)
     try with_reducible rfl
    try simp only[Act.put,sA,sB,sC]
    refine tk 2 (oi:=⟨_,_,_,_,_,_⟩) (v:= ?_) rfl (by kernel_rfl) (fun _ _ _ h=>h) (Or.inl ⟨by rfl, ?_⟩) (KE.out _ RF.out) ?_
    rotate_left
    ·(intro u hu;obtain⟨c0,c1,c2,c3,c4⟩:=Av hu.1;obtain⟨m0,m1,m2⟩:=hu.2;go_simp)
     try with_reducible rfl
    try simp only[Act.put,sA,sB,sC]
    refine tk 3 (oi:=⟨_,_,_,_,_,_⟩) (v:= ?_) rfl (by kernel_rfl) (fun _ _ _ h=>h) (Or.inl ⟨by rfl, ?_⟩) (KE.out _ RF.out) ?_
    rotate_left
    ·(intro u hu;obtain⟨c0,c1,c2,c3,c4⟩:=Av hu.1;obtain⟨m0,m1,m2⟩:=hu.2;go_simp)
     try with_reducible rfl
    try simp only[Act.put,sA,sB,sC]
    refine tk 4 (oi:=⟨_,_,_,_,_,_⟩) (v:= ?_) rfl (by kernel_rfl) (fun _ _ _ h=>h) (Or.inl ⟨by rfl, ?_⟩) (KE.out _ RF.out) ?_
    rotate_left
    ·(intro u hu;obtain⟨c0,c1,c2,c3,c4⟩:=Av hu.1;obtain⟨m0,m1,m2⟩:=hu.2;go_simp)
     try with_reducible rfl
    try simp only[Act.put,sA,sB,sC]
    refine Vm [(5,none)] rfl (by kernel_rfl) (fun u hu=>KE.out u (Below.and RF.out hu)) ?_ ?_
    ·intro f g hf;simp at hf
    refine CW.op (o:=⟨_,_,_,_,_,_⟩) rfl (fun u1 l1 K hK=> ?_)
    have L1:=AY (Below.and RF.out l1)
    refine Kj 9 [.tmp 23, .tmp 27] #[30,35] rfl (fun args w=>by go_simp) [.agg #[.bool yl, .slice y1.1 y1.2.1 y1.2.2, .slice y2.1 y2.2.1 y2.2.2, .slice y3.1 y3.2.1 y3.2.2, .slice y4.1 y4.2.1 y4.2.2], .agg #[.int .i64 (mO ms j), .int .i64 (mK ms j), .int .i64 (mV ms j)]] rfl (IJ.out (⟨yl, .slice y1.1 y1.2.1 y1.2.2, .slice y2.1 y2.2.1 y2.2.2, .slice y3.1 y3.2.1 y3.2.2, .slice y4.1 y4.2.1 y4.2.2⟩:TV) T _ _ _ _ u1 (TD.out.below L1.out) (by have:=sz8 OK.out.1;omega)) ?_
    rintro e x1 ⟨y,rfl,ty,b1⟩
    refine⟨_,rfl,hK.out _ _ b1 ?_⟩
    clear hK K;obtain⟨zl,z1,z2,z3,z4,rfl⟩:=ty.slb
    refine CW.last (fun u2 l2 K hK=> ?_)
    have L2:=AY (Below.and L1.out (Below.and b1 l2))
    have XU:=AY (XT.out.step L2.out)
    refine wp_store_mid 30 _ _ rfl NT 0 (List.toArray ([.bool zl, .slice z1.1 z1.2.1 z1.2.2, .slice z2.1 z2.2.1 z2.2.2, .slice z3.1 z3.2.1 z3.2.2, .slice z4.1 z4.2.1 z4.2.2]:List Value)) rfl rfl (Wl XU.out rfl) (show(Tryz.prog.info? 30).map (·.size)=some 5 by kernel_rfl) (by simp[Value.oneCell']) (hK.out _ _ ?_)
    clear hK K;have hcg:Chg (fun b=>b=NT) u2 (u2.setCells NT 0 ([.bool zl, .slice z1.1 z1.2.1 z1.2.2, .slice z2.1 z2.2.1 z2.2.2, .slice z3.1 z3.2.1 z3.2.2, .slice z4.1 z4.2.1 z4.2.2]:List Value)):=Chg.setCells (F:=fun b=>b=NT) (g:=NT) (fun _=>rfl) ([.bool zl, .slice z1.1 z1.2.1 z1.2.2, .slice z2.1 z2.2.1 z2.2.2, .slice z3.1 z3.2.1 z3.2.2, .slice z4.1 z4.2.1 z4.2.2]:List Value) 0 u2 (Chg.refl _ _)
    have XV:Hid (Ar (u2.setCells NT 0 ([.bool zl, .slice z1.1 z1.2.1 z1.2.2, .slice z2.1 z2.2.1 z2.2.2, .slice z3.1 z3.2.1 z3.2.2, .slice z4.1 z4.2.1 z4.2.2]:List Value)) NT #[.bool zl, .slice z1.1 z1.2.1 z1.2.2, .slice z2.1 z2.2.1 z2.2.2, .slice z3.1 z3.2.1 z3.2.2, .slice z4.1 z4.2.1 z4.2.2]):=WL XU.out ([.bool zl, .slice z1.1 z1.2.1 z1.2.2, .slice z2.1 z2.2.1 z2.2.2, .slice z3.1 z3.2.1 z3.2.2, .slice z4.1 z4.2.1 z4.2.2]:List Value) rfl
    have hz1:NT<u1.heap.size:=Nat.lt_of_lt_of_le ZN.out L1.out.size
    have TV2:=AY (((ty.below l2).mono (G:=fun g=>NT<g) (fun g hg=>Nat.lt_of_lt_of_le hz1 hg)).chg hcg (fun g hg e=>by omega))
    have OM2:=AY (Az (Az OM.out (Chg.of_below (F:=fun _=>False) L2.out) (fun _ _ h=>h)) hcg (fun g hg e=>by have:=(OM.out.lt g hg).1;omega))
    have BW2:=AY ((Below.and BW.out L2.out).trans (hcg.below (fun g _ e=>by have:=zn.out;omega) (Below.and BW.out L2.out).size))
    have ZN2:Hid (NT<(u2.setCells NT 0 ([.bool zl, .slice z1.1 z1.2.1 z1.2.2, .slice z2.1 z2.2.1 z2.2.2, .slice z3.1 z3.2.1 z3.2.2, .slice z4.1 z4.2.1 z4.2.2]:List Value)).heap.size):=Nat.lt_of_lt_of_le (Nat.lt_of_lt_of_le ZN.out L2.out.size) hcg.size
    clear hcg XU ty b1 l2 l1 hz1 XT TD OM BW ZN KE RF L1 L2;generalize u2.setCells NT 0 ([.bool zl, .slice z1.1 z1.2.1 z1.2.2, .slice z2.1 z2.2.1 z2.2.2, .slice z3.1 z3.2.1 z3.2.2, .slice z4.1 z4.2.1 z4.2.2]:List Value)=U at *
    obtain⟨m0,m1,m2⟩:=KM.out j U BW2.out hlt
    go_wp2_with fail;refine(Mf _ (Dt T) _ _ _ U (Row.of_owns OM2.out) (by have:=ML.out;omega)).mono ?_
    rintro e w4 ⟨v4,rfl,o4,b4⟩
    rw[←ST.out.2.2] at o4
    have OM4:=AY (AK o4 ZN2.out)
    replace XV:=AY (XV.out.step b4)
    replace TV2:=AY (TV2.out.below b4)
    replace BW2:=AY (Below.and BW2.out b4)
    replace ZN2:=AY (Nat.lt_of_lt_of_le ZN2.out b4.size)
    have SO:=AY (And.intro ST.out.1 ST.out.2.1)
    clear m0 m1 m2 o4 b4 OM2 ST;generalize Du T (mO ms j,mK ms j,mV ms j)=T2 at *
    obtain⟨q,hq⟩:∃q:Bool,((j:Int)%9==0)=q:=⟨_,rfl⟩
    obtain⟨c0,c1,c2,c3,c4⟩:=Av XV.out
    cases q
    ·go_wp2;go_roundw
     case rel=>exact⟨j+1,zl,z1,z2,z3,z4,T2,by go_num,by omega,⟨SO.out.1,by have:=SO.out.2;have:=OK.out.2;omega⟩,OM4.out,TV2.out,XV.out,BW2.out,ZN2.out⟩
     case measure=>simp[intOf];omega
    ·go_wp2_with fail;refine(TMM.out (⟨zl, .slice z1.1 z1.2.1 z1.2.2, .slice z2.1 z2.2.1 z2.2.2, .slice z3.1 z3.2.1 z3.2.2, .slice z4.1 z4.2.1 z4.2.2⟩:TV) T2 _ TV2.out.treeF.treeAt).mono ?_
     rintro e w5 ⟨v5,rfl,o5,b5⟩
     have R5:=AY (Row.of_owns o5)
     replace OM4:=AY (Az OM4.out (Chg.of_below (F:=fun _=>False) b5) (fun _ _ h=>h))
     have RM:=AY (Row.of_owns OM4.out)
     replace XV:=AY (XV.out.step b5)
     replace TV2:=AY (TV2.out.below b5)
     replace BW2:=AY (Below.and BW2.out b5)
     replace ZN2:=AY (Nat.lt_of_lt_of_le ZN2.out b5.size)
     clear o5 b5 c0 c1 c2 c3 c4;go_wp2_with fail;refine(Ge _ _ (Dt T2) (Dt T2) _ R5.out RM.out).mono ?_
     rintro e w6 ⟨rfl,b6⟩
     rw[decide_eq_true (rfl:Dt T2=Dt T2)]
     replace OM4:=AY (Az OM4.out (Chg.of_below (F:=fun _=>False) b6) (fun _ _ h=>h))
     replace XV:=AY (XV.out.step b6)
     replace TV2:=AY (TV2.out.below b6)
     replace BW2:=AY (Below.and BW2.out b6)
     replace ZN2:=AY (Nat.lt_of_lt_of_le ZN2.out b6.size)
     clear b6 R5 RM;go_wp2;go_roundw
     case rel=>exact⟨j+1,zl,z1,z2,z3,z4,T2,by go_num,by omega,⟨SO.out.1,by have:=SO.out.2;have:=OK.out.2;omega⟩,OM4.out,TV2.out,XV.out,BW2.out,ZN2.out⟩
     case measure=>simp[intOf];omega
   ·by_cases hlt:j<L
    case' pos=>
     have hdp:((Al T:Nat):Int)>5:=by omega
     have hjL:(j:Int)<(L:Int):=by omega
     obtain⟨c0,c1,c2,c3,c4⟩:=Av XT.out
     have TA:=AY TD.out.treeF.treeAt
     go_wp2_with fail;refine(Et 8 (⟨yl, .slice y1.1 y1.2.1 y1.2.2, .slice y2.1 y2.2.1 y2.2.2, .slice y3.1 y3.2.1 y3.2.2, .slice y4.1 y4.2.1 y4.2.2⟩:TV) T _ TA.out).mono ?_
     rintro e wx ⟨rfl,b3⟩
     replace XT:=AY (XT.out.step b3)
     replace TD:=AY (TD.out.below b3)
     replace OM:=AY (Az OM.out (Chg.of_below (F:=fun _=>False) b3) (fun _ _ h=>h))
     replace BW:=AY (Below.and BW.out b3)
     clear b3 c0 c1 c2 c3 c4 TA ZN;go_upto_region 14 with fail
     clear hdp hjL hgo
    case' neg=>
     have hjL:¬(j:Int)<(L:Int):=by omega
     go_upto_region 14 with fail
     clear hjL hgo ZN;rename World=>wx
    all_goals
     go_wp2_with fail;refine(T9 _).mono ?_
     rintro e w4 ⟨rfl,b4⟩
     replace XT:=AY (XT.out.step b4)
     replace TD:=AY (TD.out.below b4)
     replace OM:=AY (Az OM.out (Chg.of_below (F:=fun _=>False) b4) (fun _ _ h=>h))
     replace BW:=AY (Below.and BW.out b4)
     clear b4;have C:=AY (SJ.out ⟨true, .slice none 0 0, .slice none 0 0, .slice none 0 0, .slice none 0 0⟩ nT (fun _=>True) 1 1 1 w4 (Wc true _ _) (by have:=sz8 RE;omega))
     have SU:=AY (Mq RE (by rw[Wf];decide) (1,1,1))
     go_wp2_with fail;refine C.out.mono ?_
     rintro e w5 ⟨y,N,rfl,ty,b5⟩
     obtain⟨zl,z1,z2,z3,z4,rfl⟩:=ty.slb
     have TU:=AY (ok8 ty SU.out.1).treeF.treeAt
     have UM:Hid (Dt (Du nT (1,1,1))=[(1,1)]):=by show _=_;rw[SU.out.2.2,Uv];decide
     have na:=Below.and b5 (al1 w5 (.cells #[.bool zl, .slice z1.1 z1.2.1 z1.2.2, .slice z2.1 z2.2.1 z2.2.2, .slice z3.1 z3.2.1 z3.2.2, .slice z4.1 z4.2.1 z4.2.2] 30))
     have XU:=AY (Ar.start w5 #[.bool zl, .slice z1.1 z1.2.1 z1.2.2, .slice z2.1 z2.2.1 z2.2.2, .slice z3.1 z3.2.1 z3.2.2, .slice z4.1 z4.2.1 z4.2.2])
     replace TU:=AY (TU.out.below (al1 w5 (.cells #[.bool zl, .slice z1.1 z1.2.1 z1.2.2, .slice z2.1 z2.2.1 z2.2.2, .slice z3.1 z3.2.1 z3.2.2, .slice z4.1 z4.2.1 z4.2.2] 30)))
     replace XT:=AY (XT.out.step na)
     replace TD:=AY (TD.out.below na)
     replace OM:=AY (Az OM.out (Chg.of_below (F:=fun _=>False) na) (fun _ _ h=>h))
     replace BW:=AY (Below.and BW.out na)
     clear na b5 ty C SU;go_upto_region 15 with fail
     generalize w5.alloc (.cells #[.bool zl, .slice z1.1 z1.2.1 z1.2.2, .slice z2.1 z2.2.1 z2.2.2, .slice z3.1 z3.2.1 z3.2.2, .slice z4.1 z4.2.1 z4.2.2] 30)=w6 at *
     generalize w5.heap.size=NU at *
     have TA:=AY TD.out.treeF.treeAt
     clear TD;obtain⟨c0,c1,c2,c3,c4⟩:=Av XT.out
     go_wp2_with fail;refine(Es 8 (⟨yl, .slice y1.1 y1.2.1 y1.2.2, .slice y2.1 y2.2.1 y2.2.2, .slice y3.1 y3.2.1 y3.2.2, .slice y4.1 y4.2.1 y4.2.2⟩:TV) T _ TA.out).mono ?_
     rintro e w7 ⟨rfl,b7⟩
     rw[OK.out.1]
     replace XT:=AY (XT.out.step b7)
     replace TA:=AY (TA.out.below b7)
     replace XU:=AY (XU.out.step b7)
     replace TU:=AY (TU.out.below b7)
     replace OM:=AY (Az OM.out (Chg.of_below (F:=fun _=>False) b7) (fun _ _ h=>h))
     replace BW:=AY (Below.and BW.out b7)
     clear c0 c1 c2 c3 c4 b7;obtain⟨c0,c1,c2,c3,c4⟩:=Av XT.out
     go_wp2_with fail;refine(TMM.out (⟨yl, .slice y1.1 y1.2.1 y1.2.2, .slice y2.1 y2.2.1 y2.2.2, .slice y3.1 y3.2.1 y3.2.2, .slice y4.1 y4.2.1 y4.2.2⟩:TV) T _ TA.out).mono ?_
     rintro e w8 ⟨v8,rfl,o8,b8⟩
     replace XU:=AY (XU.out.step b8)
     replace TU:=AY (TU.out.below b8)
     replace OM:=AY (Az OM.out (Chg.of_below (F:=fun _=>False) b8) (fun _ _ h=>h))
     replace BW:=AY (Below.and BW.out b8)
     have R8:=AY (Row.of_owns o8)
     have RM:=AY (Row.of_owns OM.out)
     clear c0 c1 c2 c3 c4 b8 o8 XT TA OM;go_wp2_with fail;refine(Ge _ _ (Dt T) (Dt T) w8 R8.out RM.out).mono ?_
     rintro e w9 ⟨rfl,b9⟩
     rw[decide_eq_true (rfl:Dt T=Dt T)]
     replace XU:=AY (XU.out.step b9)
     replace TU:=AY (TU.out.below b9)
     replace BW:=AY (Below.and BW.out b9)
     clear b9 R8 RM;obtain⟨c0,c1,c2,c3,c4⟩:=Av XU.out
     go_wp2_with fail;refine(TMM.out (⟨zl, .slice z1.1 z1.2.1 z1.2.2, .slice z2.1 z2.2.1 z2.2.2, .slice z3.1 z3.2.1 z3.2.2, .slice z4.1 z4.2.1 z4.2.2⟩:TV) _ _ TU.out).mono ?_
     rintro e wa ⟨va,rfl,oa,ba⟩
     rw[UM.out] at oa
     replace BW:=AY (Below.and BW.out ba)
     have LA:=al1 wa (.cells #[.int .i64 1, .int .i64 1] 41)
     have RA:=AY ((Row.of_owns oa).below LA)
     have RL:Hid (Row (wa.alloc (.cells #[.int .i64 1, .int .i64 1] 41)) (.slice (some ⟨wa.heap.size,0,none⟩) 1 1) [((1:Int),(1:Int))].length (Aq [((1:Int),(1:Int))])):=Row.laid wa (Aq [((1:Int),(1:Int))]) 41 _ rfl
     replace BW:=AY (Below.and BW.out LA)
     clear c0 c1 c2 c3 c4 ba oa LA XU TU;go_wp2_with fail;refine(Ge _ _ [(1,1)] [(1,1)] _ RA.out RL.out).mono ?_
     rintro e wb ⟨rfl,bb⟩
     rw[decide_eq_true (rfl:[((1:Int),(1:Int))]=[(1,1)])]
     have FIN:=AY (Below.and BA.out (Below.and BW.out bb))
     clear BW bb RA RL;go_wp2;go_ret;exact⟨rfl,FIN.out⟩
 ·have hd:decide (bs.length>1048576)=true:=decide_eq_true (by omega)
  subst hv;go_enter Tryz.func3,Tryz.ntmps3
  go_wp2_with fail;refine(Ry _ _ _ hle _).mono ?_
  rintro e w0 ⟨rfl,hw0⟩
  subst hw0;rw[hd]
  go_wp2;go_ret;exact⟨rfl,Below.refl _ _⟩
end
section
open Go.RowKit

theorem AZ {P:Program} {ops:Array Oper} {o:Oper} {a:Act} {K:Act->World->Prop} {Q:Exit->Act->World->Prop} {E:Prop} {w:World} {R:Ending->World->Prop} (hgd:o.guard=none) (f:FuncId) (xs:List Operand) (ats:Array TypeId)
  (ho:o.op= .call { callee:= .value (.func f),args:=xs.toArray,argTypes:=ats }) (hrun:∀args w,(callFunc f args).run P w= .ok (.enter f args) w) (args:List Value) (he:xs.map a.eval=args)
  (h:Calls P f args.toArray w R) (hk:∀e w',R e w' ->∃v,e= .returned v/\K (a.put o.dst v) w') :
  if Region.wanted o (yielded ops a.tmps)=true then Oper.wp P o a w K Q else E:=by
 have hw:Region.wanted o (yielded ops a.tmps)=true:=by simp[Region.wanted,hgd]
 rw[if_pos hw]
 have ef:a.eval (.func f)= .func (.func f) #[] #[]:=rfl
 have hx:execOp a.eval o=callFunc f args.toArray:=by
  unfold execOp;simp[ho,resolve,Deferred.ofValue,invoke,ef,he]
 unfold Oper.wp
 rw[hx,hrun,Oper.upon_enter]
 refine Calls.mono h ?_
 intro e w' hr;obtain⟨v,rfl,hk⟩:=hk e w' hr
 exact hk

theorem JV (args:Array Value) (w:World):(callFunc 39 args).run Tryz.prog w= .ok (.enter 39 args) w:=by go_simp
theorem H5 (args:Array Value) (w:World):(callFunc 38 args).run Tryz.prog w= .ok (.enter 38 args) w:=by go_simp
theorem Pl (args:Array Value) (w:World):(callFunc 37 args).run Tryz.prog w= .ok (.enter 37 args) w:=by go_simp
end
end Go.Proofs.YtadmomgdacfgpaaGreat
