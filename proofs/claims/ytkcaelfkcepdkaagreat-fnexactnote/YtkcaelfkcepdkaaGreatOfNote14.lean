/-
  The contract of the model's l2Copy.
-/
import Derived.Test.YtkcaelfkcepdkaaGreatOfNote13
import Derived.Test.YtkcaelfkcepdkaaGreatOfNote7
namespace Go.Proofs.YtkcaelfkcepdkaaGreat
set_option maxRecDepth 100000
set_option maxHeartbeats 8000000
section
open Go.RowKit

def Nz (n:Nat):Prop:=∀(x:TV) (T:Tr) (w:World),Bb n w x T->Az n T<=1099511627776→
 Calls Tryz.prog 105 #[x.val] w fun e w' =>∃y:TV,e= .returned y.val/\Aw n w' (fun g=>w.heap.size<=g) y T/\Below w.heap.size w w'

theorem Ac.ne_one {w:World} {base e size n L:Nat} {v:Value} {xs:List Value} {A:Array Value} (h:Ac w base e size v n xs) (he:e≠69) (hL:Bf w L A):¬wrB v L:=by
 rintro⟨k,cap,rfl,hc⟩
 rcases h with h|⟨_,_,g',hg⟩
 ·obtain⟨_,⟨h1,_⟩|⟨g,cap',cur,h1,hg,hh,_⟩⟩:=h
  ·simp at h1
  ·simp at h1
   have h2:w.heap[L]? =some (.cells A 69 (0,0)):=hL
   rw[←h1.1,h2] at hh
   simp at hh
   exact he hh.2.symm
 ·simp at hg
  omega

theorem R6 {n:Nat} (H:Nz n):Nz (n+1):=by
 intro x T w ht hsz;obtain⟨i1,hi1,hw10,hw11,hw12⟩:=info_parts Tryz.info157
 obtain⟨i2,hi2,hw20,hw21,hw22⟩:=info_parts Tryz.info3
 obtain⟨i3,hi3,hw30,hw31,hw32⟩:=info_parts Tryz.info115
 obtain⟨i0,hi0,hz0,hz1,hz2⟩:=info_parts Tryz.info69
 obtain⟨hlf,hp,hc,hb,hk⟩:=ht.parts
 obtain⟨a1,a2,a3,a4,q1,q2,q3,q4,hx⟩:=ht.shape
 subst hx;simp only at hlf hp hc hb hk
 obtain⟨xs0,hxl,hrow,hel⟩:=hk
 obtain⟨av,b3,o3,c3,hvt,hcap1,hmax1,ha1,d0,d1,d2,d3,d4⟩:=hrow.trees
 have hq3:a3=av/\q3=c3:=by simp at hvt;exact⟨hvt.1,hvt.2.2⟩
 obtain⟨rfl,rfl⟩:=hq3
 have hsz' :T.pairs.length+(T.cuts.length+(T.kids.length+(T.kids.map (Az n)).sum+T.buf.length))<=1099511627776:=hsz
 have R1:Hid (∀u,Below w.heap.size w u->Row u (.slice a1 T.pairs.length q1) T.pairs.length (AF T.pairs)):=fun u hu=>hp.below hu
 have R2:Hid (∀u,Below w.heap.size w u->Row u (.slice a2 T.cuts.length q2) T.cuts.length (Am T.cuts)):=fun u hu=>hc.below hu
 have R3:Hid (∀u,Below w.heap.size w u->Row u (.slice a4 T.buf.length q4) T.buf.length (AW T.buf)):=fun u hu=>hb.below hu
 have L1:Hid ((AF T.pairs).length=T.pairs.length*2):=Dl _
 have L2:Hid ((Am T.cuts).length=T.cuts.length*1):=by show _=_;rw[Co];omega
 have L3:Hid ((AW T.buf).length=T.buf.length*3):=EP _
 have O1:Hid _:=Jt T.pairs
 have O2:Hid _:=DZ T.cuts
 have O3:Hid _:=JM T.buf
 have Z1:Hid (0+T.pairs.length<=maxLen/\(0+T.pairs.length)*16<=140737488355328):=⟨by unfold maxLen;omega,by omega⟩
 have Z2:Hid (0+T.cuts.length<=maxLen/\(0+T.cuts.length)*8<=140737488355328):=⟨by unfold maxLen;omega,by omega⟩
 have Z3:Hid (0+T.buf.length<=maxLen/\(0+T.buf.length)*24<=140737488355328):=⟨by unfold maxLen;omega,by omega⟩
 have HG:Hid (∀(j:Nat) (w1:World),j<T.kids.length->Below w.heap.size w w1->Calls Tryz.prog 105 #[(Ak xs0 j).val] w1 fun e w' =>∃y:TV,e= .returned y.val/\Aw n w' (fun g=>w1.heap.size<=g) y (T.kids.getD j AR)/\Below w1.heap.size w1 w'):=fun j w1 hj hbw=>H _ _ _ ((hel j (by omega)).below hbw) (by have:=JO (n:=n) hj;unfold Jg at this;omega)
 have HE:Hid (∀j,j<T.kids.length->Bb n w (Ak xs0 j) (T.kids.getD j AR)):=fun j hj=>hel j (by omega)
 have DC:Hid (∀(j:Nat) (w1:World),Below w.heap.size w w1->j<T.kids.length->w1.cell? ⟨b3,o3+j*5,none⟩=some (.bool (Ak xs0 j).lf)/\w1.cell? ⟨b3,o3+j*5+1,none⟩=some (Ak xs0 j).p/\w1.cell? ⟨b3,o3+j*5+2,none⟩=some (Ak xs0 j).c/\w1.cell? ⟨b3,o3+j*5+3,none⟩=some (Ak xs0 j).k/\w1.cell? ⟨b3,o3+j*5+4,none⟩=some (Ak xs0 j).b):=
  fun j w1 h hj=>⟨Cs h (Ah (d0 j (by omega))) (d0 j (by omega)),Cs h (Ah (d1 j (by omega))) (d1 j (by omega)),Cs h (Ah (d2 j (by omega))) (d2 j (by omega)),Cs h (Ah (d3 j (by omega))) (d3 j (by omega)),Cs h (Ah (d4 j (by omega))) (d4 j (by omega))⟩
 have HA:Hid (0<T.kids.length->a3=some ⟨b3,o3,none⟩):=fun h=>ha1 (by omega)
 have FINAL:Hid (∀(wz:World) (F:Nat->Prop) (v1 v2 v3 v4:Value) (ys:List TV) (K:Nat->Nat->Prop),Ac wz 0 157 2 v1 T.pairs.length (AF T.pairs)->Ac wz 0 3 1 v2 T.cuts.length (Am T.cuts)->Ac wz 0 115 3 v4 T.buf.length (AW T.buf)->ys.length=T.kids.length->Ac wz 0 69 5 v3 ys.length (AA ys)->(∀i,i<ys.length->Aw n wz (K i) (Ak ys i) (T.kids.getD i AR))->(∀g,wrB v1 g∨wrB v2 g∨wrB v4 g∨wrB v3 g->F g)->(∀i g,i<ys.length->K i g->F g/\¬(wrB v1 g∨wrB v2 g∨wrB v4 g∨wrB v3 g))->(∀i j g,i<j->j<ys.length->K i g->¬K j g)->Aw (n+1) wz F ⟨T.leaf,v1,v2,v3,v4⟩ T):=fun wz F v1 v2 v3 v4 ys K g1 g2 g4 g5 g6 g7 g8 g9 g10=>⟨rfl,g1,g2,g4,g8,ys,K,g5,g6,g7,g9,g10⟩
 clear ht hp hc hb hrow hel d0 d1 d2 d3 d4 ha1 hsz hvt hlf H;have hn3:T.kids.length<=1099511627776:=by omega
 clear hsz';rw[hxl] at hcap1
 clear hxl;generalize AF T.pairs=f1 at *
 generalize Am T.cuts=f2 at *
 generalize AW T.buf=f4 at *
 generalize T.pairs.length=n1 at *
 generalize T.cuts.length=n2 at *
 generalize T.buf.length=n4 at *
 generalize hts:T.kids=ts at *
 generalize T.leaf=lf at *
 generalize hn:ts.length=n3 at *
 have B0:Hid (Below w.heap.size w ((w.alloc (.cells #[.bool lf, .slice a1 n1 q1, .slice a2 n2 q2, .slice a3 n3 q3, .slice a4 n4 q4] 69)).alloc (.cells #[.bool false, .slice none 0 0, .slice none 0 0, .slice none 0 0, .slice none 0 0] 69))):=al2 _ _ _
 have S0:Hid (Bf ((w.alloc (.cells #[.bool lf, .slice a1 n1 q1, .slice a2 n2 q2, .slice a3 n3 q3, .slice a4 n4 q4] 69)).alloc (.cells #[.bool false, .slice none 0 0, .slice none 0 0, .slice none 0 0, .slice none 0 0] 69)) w.heap.size #[.bool lf, .slice a1 n1 q1, .slice a2 n2 q2, .slice a3 n3 q3, .slice a4 n4 q4]):=(Bf.start w _).step (al1 _ _)
 have X1:Hid (Bf ((w.alloc (.cells #[.bool lf, .slice a1 n1 q1, .slice a2 n2 q2, .slice a3 n3 q3, .slice a4 n4 q4] 69)).alloc (.cells #[.bool false, .slice none 0 0, .slice none 0 0, .slice none 0 0, .slice none 0 0] 69)) (w.heap.size+1) #[.bool false, .slice none 0 0, .slice none 0 0, .slice none 0 0, .slice none 0 0]):=by
  have:=Bf.start (w.alloc (.cells #[.bool lf, .slice a1 n1 q1, .slice a2 n2 q2, .slice a3 n3 q3, .slice a4 n4 q4] 69)) #[.bool false, .slice none 0 0, .slice none 0 0, .slice none 0 0, .slice none 0 0]
  rw[World.size_alloc] at this
  exact this
 have Z0:Hid (w.heap.size+2<=((w.alloc (.cells #[.bool lf, .slice a1 n1 q1, .slice a2 n2 q2, .slice a3 n3 q3, .slice a4 n4 q4] 69)).alloc (.cells #[.bool false, .slice none 0 0, .slice none 0 0, .slice none 0 0, .slice none 0 0] 69)).heap.size):=by show _<=_;simp
 show Calls Tryz.prog 105 #[.agg #[.bool lf, .slice a1 n1 q1, .slice a2 n2 q2, .slice a3 n3 q3, .slice a4 n4 q4]] w _
 go_enter Tryz.func105,Tryz.ntmps105
 go_wp2_with fail;refine QJ (fun W=>Bf W w.heap.size #[.bool lf, .slice a1 n1 q1, .slice a2 n2 q2, .slice a3 n3 q3, .slice a4 n4 q4]/\Bf W (w.heap.size+1) #[.bool false, .slice none 0 0, .slice none 0 0, .slice none 0 0, .slice none 0 0]/\Below w.heap.size w W/\w.heap.size+2<=W.heap.size) ⟨S0.out,X1.out,B0.out,Z0.out⟩ ?_
 rintro W ⟨Y0,Y1,YB,YZ⟩
 clear S0 X1 B0 Z0;obtain⟨c0,c1,c2,c3,c4⟩:=Cx Y0
 have BW:Hid (∀u,Below W.heap.size W u->Below w.heap.size w u):=fun u hu=>Below.and YB hu
 have YS:Hid (Bf W w.heap.size #[.bool lf, .slice a1 n1 q1, .slice a2 n2 q2, .slice a3 n3 q3, .slice a4 n4 q4]):=Y0
 have YR:Hid (Bf W (w.heap.size+1) #[.bool false, .slice none 0 0, .slice none 0 0, .slice none 0 0, .slice none 0 0]):=Y1
 have YN:Hid (w.heap.size+2<=W.heap.size):=YZ
 have KEEP:Hid (∀u,Below W.heap.size W u->u.cell? ⟨w.heap.size,0,none⟩=some (.bool lf)/\u.cell? ⟨w.heap.size,1,none⟩=some (.slice a1 n1 q1)/\u.cell? ⟨w.heap.size,2,none⟩=some (.slice a2 n2 q2)/\u.cell? ⟨w.heap.size,4,none⟩=some (.slice a4 n4 q4)/\Hid (Below W.heap.size W u)):=fun u hu=>⟨Cs hu (Ah c0) c0,Cs hu (Ah c1) c1,Cs hu (Ah c2) c2,Cs hu (Ah c4) c4,hu⟩
 have KB:Hid (∀u,u.cell? ⟨w.heap.size,0,none⟩=some (.bool lf)/\u.cell? ⟨w.heap.size,1,none⟩=some (.slice a1 n1 q1)/\u.cell? ⟨w.heap.size,2,none⟩=some (.slice a2 n2 q2)/\u.cell? ⟨w.heap.size,4,none⟩=some (.slice a4 n4 q4)/\Hid (Below W.heap.size W u)->Below W.heap.size W u):=fun u h=>h.2.2.2.2.out
 have KA:Hid (∀(u:World) (o:Obj),u.cell? ⟨w.heap.size,0,none⟩=some (.bool lf)/\u.cell? ⟨w.heap.size,1,none⟩=some (.slice a1 n1 q1)/\u.cell? ⟨w.heap.size,2,none⟩=some (.slice a2 n2 q2)/\u.cell? ⟨w.heap.size,4,none⟩=some (.slice a4 n4 q4)/\Hid (Below W.heap.size W u)->(u.alloc o).cell? ⟨w.heap.size,0,none⟩=some (.bool lf)/\(u.alloc o).cell? ⟨w.heap.size,1,none⟩=some (.slice a1 n1 q1)/\(u.alloc o).cell? ⟨w.heap.size,2,none⟩=some (.slice a2 n2 q2)/\(u.alloc o).cell? ⟨w.heap.size,4,none⟩=some (.slice a4 n4 q4)/\Hid (Below W.heap.size W (u.alloc o))):=fun u o h=>KEEP.out _ (Below.and (KB.out u h) (al1 u o))
 replace R1:Hid (∀u,Below W.heap.size W u->Row u (.slice a1 n1 q1) n1 f1):=fun u hu=>R1.out u (BW.out u hu)
 replace R2:Hid (∀u,Below W.heap.size W u->Row u (.slice a2 n2 q2) n2 f2):=fun u hu=>R2.out u (BW.out u hu)
 replace R3:Hid (∀u,Below W.heap.size W u->Row u (.slice a4 n4 q4) n4 f4):=fun u hu=>R3.out u (BW.out u hu)
 have hS:W.drew.cell? ⟨w.heap.size,0,none⟩=some (.bool lf)/\W.drew.cell? ⟨w.heap.size,1,none⟩=some (.slice a1 n1 q1)/\W.drew.cell? ⟨w.heap.size,2,none⟩=some (.slice a2 n2 q2)/\W.drew.cell? ⟨w.heap.size,4,none⟩=some (.slice a4 n4 q4)/\Hid (Below W.heap.size W W.drew):=KEEP.out W.drew (Below.refl _ _).drew
 clear c0 c1 c2 c3 c4 Y0 Y1 YB YZ;go_cut [3] (fun s3 wx=>∃(L:Nat) (b1 b2 b4:Option Addr) (p1 p2 p4:Nat),s3= .pointer (some ⟨L,0,none⟩)/\Hid (Bf wx L #[.bool lf, .slice b1 n1 p1, .slice b2 n2 p2, .slice none 0 0, .slice b4 n4 p4])/\Hid (Ac wx W.heap.size 157 2 (.slice b1 n1 p1) n1 f1)/\Hid (Ac wx W.heap.size 3 1 (.slice b2 n2 p2) n2 f2)/\Hid (Ac wx W.heap.size 115 3 (.slice b4 n4 p4) n4 f4)/\Hid (W.heap.size<=L)/\Hid (Below W.heap.size W wx))
 case first=>
  clear HG HE DC HA FINAL YS YR YN;refine Bx (fun u=>u.cell? ⟨w.heap.size,0,none⟩=some (.bool lf)/\u.cell? ⟨w.heap.size,1,none⟩=some (.slice a1 n1 q1)/\u.cell? ⟨w.heap.size,2,none⟩=some (.slice a2 n2 q2)/\u.cell? ⟨w.heap.size,4,none⟩=some (.slice a4 n4 q4)/\Hid (Below W.heap.size W u)) [_,_,_,_,_,_,_,_,_,_,_,_,_,_,_,_] _ rfl (by kernel_rfl) (by kernel_rfl) ?_
  refine tk 0 (oi:=⟨_,_,_,_,_,_⟩) (v:= ?_) rfl (by kernel_rfl) (fun _ _ _ h=>h) (Or.inl ⟨by rfl, ?_⟩) (by assumption) ?_
  rotate_left
  ·((intro w hSw;(try dsimp only at hSw);go_simp);(try with_reducible rfl))
  try simp only[Act.put,sA,sB,sC]
  refine tk 1 (oi:=⟨_,_,_,_,_,_⟩) (v:= ?_) rfl (by kernel_rfl) (fun _ _ _ h=>h) (Or.inl ⟨by rfl, ?_⟩) (by assumption) ?_
  rotate_left
  ·((intro w hSw;(try dsimp only at hSw);go_simp);(try with_reducible rfl))
  try simp only[Act.put,sA,sB,sC]
  refine tk 3 (oi:=⟨_,_,_,_,_,_⟩) (v:= ?_) rfl (by kernel_rfl) (fun _ _ _ h=>h) (Or.inl ⟨by rfl, ?_⟩) (by assumption) ?_
  rotate_left
  ·((intro w hSw;(try dsimp only at hSw);go_simp);(try with_reducible rfl))
  try simp only[Act.put,sA,sB,sC]
  refine tk 4 (oi:=⟨_,_,_,_,_,_⟩) (v:= ?_) rfl (by kernel_rfl) (fun _ _ _ h=>h) (Or.inl ⟨by rfl, ?_⟩) (by assumption) ?_
  rotate_left
  ·((intro w hSw;(try dsimp only at hSw);go_simp);(try with_reducible rfl))
  try simp only[Act.put,sA,sB,sC]
  refine tk 7 (oi:=⟨_,_,_,_,_,_⟩) (v:= ?_) rfl (by kernel_rfl) (fun _ _ _ h=>h) (Or.inl ⟨by rfl, ?_⟩) (by assumption) ?_
  rotate_left
  ·((intro w hSw;(try dsimp only at hSw);go_simp);(try with_reducible rfl))
  try simp only[Act.put,sA,sB,sC]
  refine tk 8 (oi:=⟨_,_,_,_,_,_⟩) (v:= ?_) rfl (by kernel_rfl) (fun _ _ _ h=>h) (Or.inl ⟨by rfl, ?_⟩) (by assumption) ?_
  rotate_left
  ·((intro w hSw;(try dsimp only at hSw);go_simp);(try with_reducible rfl))
  try simp only[Act.put,sA,sB,sC]
  refine tk 11 (oi:=⟨_,_,_,_,_,_⟩) (v:= ?_) rfl (by kernel_rfl) (fun _ _ _ h=>h) (Or.inl ⟨by rfl, ?_⟩) (by assumption) ?_
  rotate_left
  ·((intro w hSw;(try dsimp only at hSw);go_simp);(try with_reducible rfl))
  try simp only[Act.put,sA,sB,sC]
  refine tk 12 (oi:=⟨_,_,_,_,_,_⟩) (v:= ?_) rfl (by kernel_rfl) (fun _ _ _ h=>h) (Or.inl ⟨by rfl, ?_⟩) (by assumption) ?_
  rotate_left
  ·((intro w hSw;(try dsimp only at hSw);go_simp);(try with_reducible rfl))
  try simp only[Act.put,sA,sB,sC]
  refine wpR.held ?_ (by assumption)
  refine Ec (i:=2) (oi:=⟨_,_,_,_,_,_⟩) (fun v=>∃g,v= .slice (some ⟨g,0,none⟩) 0 0) rfl (by kernel_rfl) (by kernel_rfl) (by kernel_rfl) (fun _ _ _ _ h=>h) (fun u hu=>⟨.slice (some ⟨u.heap.size,0,none⟩) 0 0,u.alloc (.cells #[] 157),(by go_simp),⟨_,rfl⟩,al1 _ _,KA.out u _ hu⟩) ?_
  rintro _ ⟨g1,rfl⟩
  try simp only[Act.put,sA,sB,sC]
  refine Ec (i:=6) (oi:=⟨_,_,_,_,_,_⟩) (fun v=>∃g,v= .slice (some ⟨g,0,none⟩) 0 0) rfl (by kernel_rfl) (by kernel_rfl) (by kernel_rfl) (fun _ _ _ _ h=>h) (fun u hu=>⟨.slice (some ⟨u.heap.size,0,none⟩) 0 0,u.alloc (.cells #[] 3),(by go_simp),⟨_,rfl⟩,al1 _ _,KA.out u _ hu⟩) ?_
  rintro _ ⟨g2,rfl⟩
  try simp only[Act.put,sA,sB,sC]
  refine Ec (i:=10) (oi:=⟨_,_,_,_,_,_⟩) (fun v=>∃g,v= .slice (some ⟨g,0,none⟩) 0 0) rfl (by kernel_rfl) (by kernel_rfl) (by kernel_rfl) (fun _ _ _ _ h=>h) (fun u hu=>⟨.slice (some ⟨u.heap.size,0,none⟩) 0 0,u.alloc (.cells #[] 115),(by go_simp),⟨_,rfl⟩,al1 _ _,KA.out u _ hu⟩) ?_
  rintro _ ⟨g4,rfl⟩
  try simp only[Act.put,sA,sB,sC]
  refine Kc (i:=5) (k:=15) (o:=⟨_,_,_,_,_,_⟩) (o2:=⟨_,_,_,_,_,_⟩) (by kernel_rfl) rfl rfl ?_ ?_
  ·intro u1 hu1 su1 K hK;refine Bz u1 rfl _ _ 65 rfl W.heap.size 157 i1 _ 2 16 Tryz.underlying65 hi1 hw10 hw11 hw12 rfl (by decide) (.slice (some ⟨g1,0,none⟩) 0 0) 0 [] rfl (Ac.zero _ _ _ _ _) (.slice a1 n1 q1) n1 f1 rfl (R1.out _ (KB.out _ su1)) L1.out O1.out Z1.out.1 Z1.out.2 (KB.out _ su1).size ?_
   intro vx1 x1 Ax1;have Px1:AH u1 x1:=Ax1.2.1.below (fun g _ h=>absurd h (A8 _ _)) (Nat.le_refl _)
   have N1:Hid (∀g,wrB vx1 g->W.heap.size<=g):=fun g hg=>(Ax1.2.2.2 g hg).elim (fun h=>absurd h (A8 _ _)) (fun h=>Nat.le_trans (KB.out _ su1).size h)
   have Qx1:=Ax1.1
   rw[Nat.zero_add,List.nil_append] at Qx1
   obtain⟨b1,p1,hv⟩:=Qx1.slice
   subst hv;have D1:Hid (∀z,AH x1 z->Ac z W.heap.size 157 2 (.slice b1 n1 p1) n1 f1):=fun z hz=>Qx1.below hz
   have Sx1:=KEEP.out x1 (Below.and (KB.out _ su1) Px1)
   clear Ax1 Qx1 su1 hu1 Px1;refine hK.out _ _ Sx1 ?_
   clear hK K;try simp only[Act.put,sA,sB,sC]
   clear Sx1;refine Kc (i:=9) (k:=15) (o:=⟨_,_,_,_,_,_⟩) (o2:=⟨_,_,_,_,_,_⟩) (by kernel_rfl) rfl rfl ?_ ?_
   ·intro u2 hu2 su2 K hK;refine Bz u2 rfl _ _ 50 rfl W.heap.size 3 i2 _ 1 8 Tryz.underlying50 hi2 hw20 hw21 hw22 rfl (by decide) (.slice (some ⟨g2,0,none⟩) 0 0) 0 [] rfl (Ac.zero _ _ _ _ _) (.slice a2 n2 q2) n2 f2 rfl (R2.out _ (KB.out _ su2)) L2.out O2.out Z2.out.1 Z2.out.2 (KB.out _ su2).size ?_
    intro vx2 x2 Ax2;have Px2:AH u2 x2:=Ax2.2.1.below (fun g _ h=>absurd h (A8 _ _)) (Nat.le_refl _)
    have N2:Hid (∀g,wrB vx2 g->W.heap.size<=g):=fun g hg=>(Ax2.2.2.2 g hg).elim (fun h=>absurd h (A8 _ _)) (fun h=>Nat.le_trans (KB.out _ su2).size h)
    have Qx2:=Ax2.1
    rw[Nat.zero_add,List.nil_append] at Qx2
    obtain⟨b2,p2,hv⟩:=Qx2.slice
    subst hv;have D2:Hid (∀z,AH x2 z->Ac z W.heap.size 3 1 (.slice b2 n2 p2) n2 f2):=fun z hz=>Qx2.below hz
    replace D1:Hid (∀z,AH x2 z->Ac z W.heap.size 157 2 (.slice b1 n1 p1) n1 f1):=fun z hz=>D1.out z ((hu2.trans Px2).trans hz)
    have Sx2:=KEEP.out x2 (Below.and (KB.out _ su2) Px2)
    clear Ax2 Qx2 su2 hu2 Px2;refine hK.out _ _ Sx2 ?_
    clear hK K;try simp only[Act.put,sA,sB,sC]
    clear Sx2;refine Kc (i:=13) (k:=15) (o:=⟨_,_,_,_,_,_⟩) (o2:=⟨_,_,_,_,_,_⟩) (by kernel_rfl) rfl rfl ?_ ?_
    ·intro u3 hu3 su3 K hK;refine Bz u3 rfl _ _ 67 rfl W.heap.size 115 i3 _ 3 24 Tryz.underlying67 hi3 hw30 hw31 hw32 rfl (by decide) (.slice (some ⟨g4,0,none⟩) 0 0) 0 [] rfl (Ac.zero _ _ _ _ _) (.slice a4 n4 q4) n4 f4 rfl (R3.out _ (KB.out _ su3)) L3.out O3.out Z3.out.1 Z3.out.2 (KB.out _ su3).size ?_
     intro vx3 x3 Ax3;have Px3:AH u3 x3:=Ax3.2.1.below (fun g _ h=>absurd h (A8 _ _)) (Nat.le_refl _)
     have N3:Hid (∀g,wrB vx3 g->W.heap.size<=g):=fun g hg=>(Ax3.2.2.2 g hg).elim (fun h=>absurd h (A8 _ _)) (fun h=>Nat.le_trans (KB.out _ su3).size h)
     have Qx3:=Ax3.1
     rw[Nat.zero_add,List.nil_append] at Qx3
     obtain⟨b4,p4,hv⟩:=Qx3.slice
     subst hv;have D3:Hid (∀z,AH x3 z->Ac z W.heap.size 115 3 (.slice b4 n4 p4) n4 f4):=fun z hz=>Qx3.below hz
     replace D1:Hid (∀z,AH x3 z->Ac z W.heap.size 157 2 (.slice b1 n1 p1) n1 f1):=fun z hz=>D1.out z ((hu3.trans Px3).trans hz)
     replace D2:=hid (fun z (hz:AH x3 z)=>D2.out z ((hu3.trans Px3).trans hz))
     have Sx3:=KEEP.out x3 (Below.and (KB.out _ su3) Px3)
     clear Ax3 Qx3 su3 hu3 Px3;refine hK.out _ _ Sx3 ?_
     clear hK K;try simp only[Act.put,sA,sB,sC]
     clear Sx3;refine Ec (i:=14) (oi:=⟨_,_,_,_,_,_⟩) (fun v=>v= .agg #[.bool lf, .slice b1 n1 p1, .slice b2 n2 p2, .slice none 0 0, .slice b4 n4 p4]) rfl (by kernel_rfl) (by kernel_rfl) (by kernel_rfl) (fun _ _ _ _ h=>h) (fun u hu=>⟨_,u,(by go_simp;try rfl),rfl,AH.refl _,hu⟩) ?_
     rintro _ rfl
     try simp only[Act.put,sA,sB,sC]
     refine E7 (i:=15) (o:=⟨_,_,_,_,_,_⟩) (by kernel_rfl) rfl (fun u4 hu4 su4 K hK=> ?_)
     go_simp
     replace D1:=hid (fun z (hz:AH (u4.alloc (.cells #[.bool false, .slice none 0 0, .slice none 0 0, .slice none 0 0, .slice none 0 0] 69)) z)=>D1.out z ((hu4.trans (al1 u4 _)).trans hz))
     replace D2:=hid (fun z (hz:AH (u4.alloc (.cells #[.bool false, .slice none 0 0, .slice none 0 0, .slice none 0 0, .slice none 0 0] 69)) z)=>D2.out z ((hu4.trans (al1 u4 _)).trans hz))
     replace D3:=hid (fun z (hz:AH (u4.alloc (.cells #[.bool false, .slice none 0 0, .slice none 0 0, .slice none 0 0, .slice none 0 0] 69)) z)=>D3.out z ((hu4.trans (al1 u4 _)).trans hz))
     have XB:=hid (fun z (hz:AH (u4.alloc (.cells #[.bool false, .slice none 0 0, .slice none 0 0, .slice none 0 0, .slice none 0 0] 69)) z)=>(Bf.start u4 _).step hz)
     have XN:=hid ((KB.out _ su4).size)
     have Sa:=KEEP.out (u4.alloc (.cells #[.bool false, .slice none 0 0, .slice none 0 0, .slice none 0 0, .slice none 0 0] 69)) (Below.and (KB.out _ su4) (al1 u4 _))
     refine hK.out _ _ Sa ?_
     clear hK K;try simp only[Act.put,sA,sB,sC]
     clear Sa;refine GO (by kernel_rfl) (fun u5 hu5 su5=> ?_) _
     show Oper.wp _ _ _ _ _ _
     have XU:=hid (XB.out u5 hu5)
     obtain⟨⟨m0,m1,m2,m3,m4⟩,k0,k1,k2,k3,k4⟩:=EI XU.out
     have FIN:Hid (∀v0 v1 v2 v3 v4,Ac (set5 u5 u4.heap.size v0 v1 v2 v3 v4) W.heap.size 157 2 (.slice b1 n1 p1) n1 f1/\Ac (set5 u5 u4.heap.size v0 v1 v2 v3 v4) W.heap.size 3 1 (.slice b2 n2 p2) n2 f2/\Ac (set5 u5 u4.heap.size v0 v1 v2 v3 v4) W.heap.size 115 3 (.slice b4 n4 p4) n4 f4/\Below W.heap.size W (set5 u5 u4.heap.size v0 v1 v2 v3 v4)):=fun v0 v1 v2 v3 v4=>by
      have hc:=Fm u5 u4.heap.size v0 v1 v2 v3 v4
      exact⟨(D1.out u5 hu5).chg hc (fun g hg e=>(D1.out u5 hu5).ne_one (by decide) XU.out (e ▸ hg)),(D2.out u5 hu5).chg hc (fun g hg e=>(D2.out u5 hu5).ne_one (by decide) XU.out (e ▸ hg)),(D3.out u5 hu5).chg hc (fun g hg e=>(D3.out u5 hu5).ne_one (by decide) XU.out (e ▸ hg)),(KB.out _ su5).trans (hc.below (fun g _ hg=>by have:=XN.out;omega) (KB.out _ su5).size)⟩
     clear D1 D2 D3 XB;go_simp
     go_wp2_with fail;go_meet
     case rel=>exact⟨u4.heap.size,b1,b2,b4,p1,p2,p4,rfl,XU.out.set5 _ _ _ _ _,(FIN.out _ _ _ _ _).1,(FIN.out _ _ _ _ _).2.1,(FIN.out _ _ _ _ _).2.2.1,XN,(FIN.out _ _ _ _ _).2.2.2⟩
    ·intro u6 hu6 su6 K hK;go_simp
     replace D1:=hid (fun z (hz:AH (u6.alloc (.cells #[.bool false, .slice none 0 0, .slice none 0 0, .slice none 0 0, .slice none 0 0] 69)) z)=>D1.out z ((hu6.trans (al1 u6 _)).trans hz))
     replace D2:=hid (fun z (hz:AH (u6.alloc (.cells #[.bool false, .slice none 0 0, .slice none 0 0, .slice none 0 0, .slice none 0 0] 69)) z)=>D2.out z ((hu6.trans (al1 u6 _)).trans hz))
     have XB:=hid (fun z (hz:AH (u6.alloc (.cells #[.bool false, .slice none 0 0, .slice none 0 0, .slice none 0 0, .slice none 0 0] 69)) z)=>(Bf.start u6 _).step hz)
     have XN:=hid ((KB.out _ su6).size)
     have Sa:=KEEP.out (u6.alloc (.cells #[.bool false, .slice none 0 0, .slice none 0 0, .slice none 0 0, .slice none 0 0] 69)) (Below.and (KB.out _ su6) (al1 u6 _))
     refine hK.out _ _ Sa ?_
     clear hK K;try simp only[Act.put,sA,sB,sC]
     clear Sa;refine E7 (i:=13) (o:=⟨_,_,_,_,_,_⟩) (by kernel_rfl) rfl (fun u7 hu7 su7 K hK=> ?_)
     refine Bz u7 rfl _ _ 67 rfl W.heap.size 115 i3 _ 3 24 Tryz.underlying67 hi3 hw30 hw31 hw32 rfl (by decide) (.slice (some ⟨g4,0,none⟩) 0 0) 0 [] rfl (Ac.zero _ _ _ _ _) (.slice a4 n4 q4) n4 f4 rfl (R3.out _ (KB.out _ su7)) L3.out O3.out Z3.out.1 Z3.out.2 (KB.out _ su7).size ?_
     intro vx7 x7 Ax7;have Px7:AH u7 x7:=Ax7.2.1.below (fun g _ h=>absurd h (A8 _ _)) (Nat.le_refl _)
     have N3:=hid (fun g (hg:wrB vx7 g)=>(Ax7.2.2.2 g hg).elim (fun h=>absurd h (A8 _ _)) (fun h=>Nat.le_trans (KB.out _ su7).size h))
     have Qx7:=Ax7.1
     rw[Nat.zero_add,List.nil_append] at Qx7
     obtain⟨b4,p4,hv⟩:=Qx7.slice
     subst hv;have D3:=hid (fun z (hz:AH x7 z)=>Qx7.below hz)
     replace D1:=hid (fun z (hz:AH x7 z)=>D1.out z ((hu7.trans Px7).trans hz))
     replace D2:=hid (fun z (hz:AH x7 z)=>D2.out z ((hu7.trans Px7).trans hz))
     replace XB:=hid (fun z (hz:AH x7 z)=>XB.out z ((hu7.trans Px7).trans hz))
     have Sx7:=KEEP.out x7 (Below.and (KB.out _ su7) Px7)
     clear Ax7 Qx7 su7 hu7 Px7;refine hK.out _ _ Sx7 ?_
     clear hK K;try simp only[Act.put,sA,sB,sC]
     clear Sx7;refine Ec (i:=14) (oi:=⟨_,_,_,_,_,_⟩) (fun v=>v= .agg #[.bool lf, .slice b1 n1 p1, .slice b2 n2 p2, .slice none 0 0, .slice b4 n4 p4]) rfl (by kernel_rfl) (by kernel_rfl) (by kernel_rfl) (fun _ _ _ _ h=>h) (fun u hu=>⟨_,u,(by go_simp;try rfl),rfl,AH.refl _,hu⟩) ?_
     rintro _ rfl
     try simp only[Act.put,sA,sB,sC]
     refine GO (by kernel_rfl) (fun u8 hu8 su8=> ?_) _
     show Oper.wp _ _ _ _ _ _
     have XU:=hid (XB.out u8 hu8)
     obtain⟨⟨m0,m1,m2,m3,m4⟩,k0,k1,k2,k3,k4⟩:=EI XU.out
     have FIN:Hid (∀v0 v1 v2 v3 v4,Ac (set5 u8 u6.heap.size v0 v1 v2 v3 v4) W.heap.size 157 2 (.slice b1 n1 p1) n1 f1/\Ac (set5 u8 u6.heap.size v0 v1 v2 v3 v4) W.heap.size 3 1 (.slice b2 n2 p2) n2 f2/\Ac (set5 u8 u6.heap.size v0 v1 v2 v3 v4) W.heap.size 115 3 (.slice b4 n4 p4) n4 f4/\Below W.heap.size W (set5 u8 u6.heap.size v0 v1 v2 v3 v4)):=fun v0 v1 v2 v3 v4=>by
      have hc:=Fm u8 u6.heap.size v0 v1 v2 v3 v4
      exact⟨(D1.out u8 hu8).chg hc (fun g hg e=>(D1.out u8 hu8).ne_one (by decide) XU.out (e ▸ hg)),(D2.out u8 hu8).chg hc (fun g hg e=>(D2.out u8 hu8).ne_one (by decide) XU.out (e ▸ hg)),(D3.out u8 hu8).chg hc (fun g hg e=>(D3.out u8 hu8).ne_one (by decide) XU.out (e ▸ hg)),(KB.out _ su8).trans (hc.below (fun g _ hg=>by have:=XN.out;omega) (KB.out _ su8).size)⟩
     clear D1 D2 D3 XB;go_simp
     go_wp2_with fail;go_meet
     case rel=>exact⟨u6.heap.size,b1,b2,b4,p1,p2,p4,rfl,XU.out.set5 _ _ _ _ _,(FIN.out _ _ _ _ _).1,(FIN.out _ _ _ _ _).2.1,(FIN.out _ _ _ _ _).2.2.1,XN,(FIN.out _ _ _ _ _).2.2.2⟩
   ·intro u9 hu9 su9 K hK;go_simp
    replace D1:=hid (fun z (hz:AH (u9.alloc (.cells #[.bool false, .slice none 0 0, .slice none 0 0, .slice none 0 0, .slice none 0 0] 69)) z)=>D1.out z ((hu9.trans (al1 u9 _)).trans hz))
    have XB:=hid (fun z (hz:AH (u9.alloc (.cells #[.bool false, .slice none 0 0, .slice none 0 0, .slice none 0 0, .slice none 0 0] 69)) z)=>(Bf.start u9 _).step hz)
    have XN:=hid ((KB.out _ su9).size)
    have Sa:=KEEP.out (u9.alloc (.cells #[.bool false, .slice none 0 0, .slice none 0 0, .slice none 0 0, .slice none 0 0] 69)) (Below.and (KB.out _ su9) (al1 u9 _))
    refine hK.out _ _ Sa ?_
    clear hK K;try simp only[Act.put,sA,sB,sC]
    clear Sa;refine E7 (i:=9) (o:=⟨_,_,_,_,_,_⟩) (by kernel_rfl) rfl (fun u10 hu10 su10 K hK=> ?_)
    refine Bz u10 rfl _ _ 50 rfl W.heap.size 3 i2 _ 1 8 Tryz.underlying50 hi2 hw20 hw21 hw22 rfl (by decide) (.slice (some ⟨g2,0,none⟩) 0 0) 0 [] rfl (Ac.zero _ _ _ _ _) (.slice a2 n2 q2) n2 f2 rfl (R2.out _ (KB.out _ su10)) L2.out O2.out Z2.out.1 Z2.out.2 (KB.out _ su10).size ?_
    intro vx10 x10 Ax10;have Px10:AH u10 x10:=Ax10.2.1.below (fun g _ h=>absurd h (A8 _ _)) (Nat.le_refl _)
    have N2:=hid (fun g (hg:wrB vx10 g)=>(Ax10.2.2.2 g hg).elim (fun h=>absurd h (A8 _ _)) (fun h=>Nat.le_trans (KB.out _ su10).size h))
    have Qx10:=Ax10.1
    rw[Nat.zero_add,List.nil_append] at Qx10
    obtain⟨b2,p2,hv⟩:=Qx10.slice
    subst hv;have D2:=hid (fun z (hz:AH x10 z)=>Qx10.below hz)
    replace D1:=hid (fun z (hz:AH x10 z)=>D1.out z ((hu10.trans Px10).trans hz))
    replace XB:=hid (fun z (hz:AH x10 z)=>XB.out z ((hu10.trans Px10).trans hz))
    have Sx10:=KEEP.out x10 (Below.and (KB.out _ su10) Px10)
    clear Ax10 Qx10 su10 hu10 Px10;refine hK.out _ _ Sx10 ?_
    clear hK K;try simp only[Act.put,sA,sB,sC]
    clear Sx10;refine E7 (i:=13) (o:=⟨_,_,_,_,_,_⟩) (by kernel_rfl) rfl (fun u11 hu11 su11 K hK=> ?_)
    refine Bz u11 rfl _ _ 67 rfl W.heap.size 115 i3 _ 3 24 Tryz.underlying67 hi3 hw30 hw31 hw32 rfl (by decide) (.slice (some ⟨g4,0,none⟩) 0 0) 0 [] rfl (Ac.zero _ _ _ _ _) (.slice a4 n4 q4) n4 f4 rfl (R3.out _ (KB.out _ su11)) L3.out O3.out Z3.out.1 Z3.out.2 (KB.out _ su11).size ?_
    intro vx11 x11 Ax11;have Px11:AH u11 x11:=Ax11.2.1.below (fun g _ h=>absurd h (A8 _ _)) (Nat.le_refl _)
    have N3:=hid (fun g (hg:wrB vx11 g)=>(Ax11.2.2.2 g hg).elim (fun h=>absurd h (A8 _ _)) (fun h=>Nat.le_trans (KB.out _ su11).size h))
    have Qx11:=Ax11.1
    rw[Nat.zero_add,List.nil_append] at Qx11
    obtain⟨b4,p4,hv⟩:=Qx11.slice
    subst hv;have D3:=hid (fun z (hz:AH x11 z)=>Qx11.below hz)
    replace D1:=hid (fun z (hz:AH x11 z)=>D1.out z ((hu11.trans Px11).trans hz))
    replace D2:=hid (fun z (hz:AH x11 z)=>D2.out z ((hu11.trans Px11).trans hz))
    replace XB:=hid (fun z (hz:AH x11 z)=>XB.out z ((hu11.trans Px11).trans hz))
    have Sx11:=KEEP.out x11 (Below.and (KB.out _ su11) Px11)
    clear Ax11 Qx11 su11 hu11 Px11;refine hK.out _ _ Sx11 ?_
    clear hK K;try simp only[Act.put,sA,sB,sC]
    clear Sx11;refine Ec (i:=14) (oi:=⟨_,_,_,_,_,_⟩) (fun v=>v= .agg #[.bool lf, .slice b1 n1 p1, .slice b2 n2 p2, .slice none 0 0, .slice b4 n4 p4]) rfl (by kernel_rfl) (by kernel_rfl) (by kernel_rfl) (fun _ _ _ _ h=>h) (fun u hu=>⟨_,u,(by go_simp;try rfl),rfl,AH.refl _,hu⟩) ?_
    rintro _ rfl
    try simp only[Act.put,sA,sB,sC]
    refine GO (by kernel_rfl) (fun u12 hu12 su12=> ?_) _
    show Oper.wp _ _ _ _ _ _
    have XU:=hid (XB.out u12 hu12)
    obtain⟨⟨m0,m1,m2,m3,m4⟩,k0,k1,k2,k3,k4⟩:=EI XU.out
    have FIN:Hid (∀v0 v1 v2 v3 v4,Ac (set5 u12 u9.heap.size v0 v1 v2 v3 v4) W.heap.size 157 2 (.slice b1 n1 p1) n1 f1/\Ac (set5 u12 u9.heap.size v0 v1 v2 v3 v4) W.heap.size 3 1 (.slice b2 n2 p2) n2 f2/\Ac (set5 u12 u9.heap.size v0 v1 v2 v3 v4) W.heap.size 115 3 (.slice b4 n4 p4) n4 f4/\Below W.heap.size W (set5 u12 u9.heap.size v0 v1 v2 v3 v4)):=fun v0 v1 v2 v3 v4=>by
     have hc:=Fm u12 u9.heap.size v0 v1 v2 v3 v4
     exact⟨(D1.out u12 hu12).chg hc (fun g hg e=>(D1.out u12 hu12).ne_one (by decide) XU.out (e ▸ hg)),(D2.out u12 hu12).chg hc (fun g hg e=>(D2.out u12 hu12).ne_one (by decide) XU.out (e ▸ hg)),(D3.out u12 hu12).chg hc (fun g hg e=>(D3.out u12 hu12).ne_one (by decide) XU.out (e ▸ hg)),(KB.out _ su12).trans (hc.below (fun g _ hg=>by have:=XN.out;omega) (KB.out _ su12).size)⟩
    clear D1 D2 D3 XB;go_simp
    go_wp2_with fail;go_meet
    case rel=>exact⟨u9.heap.size,b1,b2,b4,p1,p2,p4,rfl,XU.out.set5 _ _ _ _ _,(FIN.out _ _ _ _ _).1,(FIN.out _ _ _ _ _).2.1,(FIN.out _ _ _ _ _).2.2.1,XN,(FIN.out _ _ _ _ _).2.2.2⟩
  ·intro u13 hu13 su13 K hK;go_simp
   have XB:=hid (fun z (hz:AH (u13.alloc (.cells #[.bool false, .slice none 0 0, .slice none 0 0, .slice none 0 0, .slice none 0 0] 69)) z)=>(Bf.start u13 _).step hz)
   have XN:=hid ((KB.out _ su13).size)
   have Sa:=KEEP.out (u13.alloc (.cells #[.bool false, .slice none 0 0, .slice none 0 0, .slice none 0 0, .slice none 0 0] 69)) (Below.and (KB.out _ su13) (al1 u13 _))
   refine hK.out _ _ Sa ?_
   clear hK K;try simp only[Act.put,sA,sB,sC]
   clear Sa;refine E7 (i:=5) (o:=⟨_,_,_,_,_,_⟩) (by kernel_rfl) rfl (fun u14 hu14 su14 K hK=> ?_)
   refine Bz u14 rfl _ _ 65 rfl W.heap.size 157 i1 _ 2 16 Tryz.underlying65 hi1 hw10 hw11 hw12 rfl (by decide) (.slice (some ⟨g1,0,none⟩) 0 0) 0 [] rfl (Ac.zero _ _ _ _ _) (.slice a1 n1 q1) n1 f1 rfl (R1.out _ (KB.out _ su14)) L1.out O1.out Z1.out.1 Z1.out.2 (KB.out _ su14).size ?_
   intro vx14 x14 Ax14;have Px14:AH u14 x14:=Ax14.2.1.below (fun g _ h=>absurd h (A8 _ _)) (Nat.le_refl _)
   have N1:=hid (fun g (hg:wrB vx14 g)=>(Ax14.2.2.2 g hg).elim (fun h=>absurd h (A8 _ _)) (fun h=>Nat.le_trans (KB.out _ su14).size h))
   have Qx14:=Ax14.1
   rw[Nat.zero_add,List.nil_append] at Qx14
   obtain⟨b1,p1,hv⟩:=Qx14.slice
   subst hv;have D1:=hid (fun z (hz:AH x14 z)=>Qx14.below hz)
   replace XB:=hid (fun z (hz:AH x14 z)=>XB.out z ((hu14.trans Px14).trans hz))
   have Sx14:=KEEP.out x14 (Below.and (KB.out _ su14) Px14)
   clear Ax14 Qx14 su14 hu14 Px14;refine hK.out _ _ Sx14 ?_
   clear hK K;try simp only[Act.put,sA,sB,sC]
   clear Sx14;refine E7 (i:=9) (o:=⟨_,_,_,_,_,_⟩) (by kernel_rfl) rfl (fun u15 hu15 su15 K hK=> ?_)
   refine Bz u15 rfl _ _ 50 rfl W.heap.size 3 i2 _ 1 8 Tryz.underlying50 hi2 hw20 hw21 hw22 rfl (by decide) (.slice (some ⟨g2,0,none⟩) 0 0) 0 [] rfl (Ac.zero _ _ _ _ _) (.slice a2 n2 q2) n2 f2 rfl (R2.out _ (KB.out _ su15)) L2.out O2.out Z2.out.1 Z2.out.2 (KB.out _ su15).size ?_
   intro vx15 x15 Ax15;have Px15:AH u15 x15:=Ax15.2.1.below (fun g _ h=>absurd h (A8 _ _)) (Nat.le_refl _)
   have N2:=hid (fun g (hg:wrB vx15 g)=>(Ax15.2.2.2 g hg).elim (fun h=>absurd h (A8 _ _)) (fun h=>Nat.le_trans (KB.out _ su15).size h))
   have Qx15:=Ax15.1
   rw[Nat.zero_add,List.nil_append] at Qx15
   obtain⟨b2,p2,hv⟩:=Qx15.slice
   subst hv;have D2:=hid (fun z (hz:AH x15 z)=>Qx15.below hz)
   replace D1:=hid (fun z (hz:AH x15 z)=>D1.out z ((hu15.trans Px15).trans hz))
   replace XB:=hid (fun z (hz:AH x15 z)=>XB.out z ((hu15.trans Px15).trans hz))
   have Sx15:=KEEP.out x15 (Below.and (KB.out _ su15) Px15)
   clear Ax15 Qx15 su15 hu15 Px15;refine hK.out _ _ Sx15 ?_
   clear hK K;try simp only[Act.put,sA,sB,sC]
   clear Sx15;refine E7 (i:=13) (o:=⟨_,_,_,_,_,_⟩) (by kernel_rfl) rfl (fun u16 hu16 su16 K hK=> ?_)
   refine Bz u16 rfl _ _ 67 rfl W.heap.size 115 i3 _ 3 24 Tryz.underlying67 hi3 hw30 hw31 hw32 rfl (by decide) (.slice (some ⟨g4,0,none⟩) 0 0) 0 [] rfl (Ac.zero _ _ _ _ _) (.slice a4 n4 q4) n4 f4 rfl (R3.out _ (KB.out _ su16)) L3.out O3.out Z3.out.1 Z3.out.2 (KB.out _ su16).size ?_
   intro vx16 x16 Ax16;have Px16:AH u16 x16:=Ax16.2.1.below (fun g _ h=>absurd h (A8 _ _)) (Nat.le_refl _)
   have N3:=hid (fun g (hg:wrB vx16 g)=>(Ax16.2.2.2 g hg).elim (fun h=>absurd h (A8 _ _)) (fun h=>Nat.le_trans (KB.out _ su16).size h))
   have Qx16:=Ax16.1
   rw[Nat.zero_add,List.nil_append] at Qx16
   obtain⟨b4,p4,hv⟩:=Qx16.slice
   subst hv;have D3:=hid (fun z (hz:AH x16 z)=>Qx16.below hz)
   replace D1:=hid (fun z (hz:AH x16 z)=>D1.out z ((hu16.trans Px16).trans hz))
   replace D2:=hid (fun z (hz:AH x16 z)=>D2.out z ((hu16.trans Px16).trans hz))
   replace XB:=hid (fun z (hz:AH x16 z)=>XB.out z ((hu16.trans Px16).trans hz))
   have Sx16:=KEEP.out x16 (Below.and (KB.out _ su16) Px16)
   clear Ax16 Qx16 su16 hu16 Px16;refine hK.out _ _ Sx16 ?_
   clear hK K;try simp only[Act.put,sA,sB,sC]
   clear Sx16;refine Ec (i:=14) (oi:=⟨_,_,_,_,_,_⟩) (fun v=>v= .agg #[.bool lf, .slice b1 n1 p1, .slice b2 n2 p2, .slice none 0 0, .slice b4 n4 p4]) rfl (by kernel_rfl) (by kernel_rfl) (by kernel_rfl) (fun _ _ _ _ h=>h) (fun u hu=>⟨_,u,(by go_simp;try rfl),rfl,AH.refl _,hu⟩) ?_
   rintro _ rfl
   try simp only[Act.put,sA,sB,sC]
   refine GO (by kernel_rfl) (fun u17 hu17 su17=> ?_) _
   show Oper.wp _ _ _ _ _ _
   have XU:=hid (XB.out u17 hu17)
   obtain⟨⟨m0,m1,m2,m3,m4⟩,k0,k1,k2,k3,k4⟩:=EI XU.out
   have FIN:Hid (∀v0 v1 v2 v3 v4,Ac (set5 u17 u13.heap.size v0 v1 v2 v3 v4) W.heap.size 157 2 (.slice b1 n1 p1) n1 f1/\Ac (set5 u17 u13.heap.size v0 v1 v2 v3 v4) W.heap.size 3 1 (.slice b2 n2 p2) n2 f2/\Ac (set5 u17 u13.heap.size v0 v1 v2 v3 v4) W.heap.size 115 3 (.slice b4 n4 p4) n4 f4/\Below W.heap.size W (set5 u17 u13.heap.size v0 v1 v2 v3 v4)):=fun v0 v1 v2 v3 v4=>by
    have hc:=Fm u17 u13.heap.size v0 v1 v2 v3 v4
    exact⟨(D1.out u17 hu17).chg hc (fun g hg e=>(D1.out u17 hu17).ne_one (by decide) XU.out (e ▸ hg)),(D2.out u17 hu17).chg hc (fun g hg e=>(D2.out u17 hu17).ne_one (by decide) XU.out (e ▸ hg)),(D3.out u17 hu17).chg hc (fun g hg e=>(D3.out u17 hu17).ne_one (by decide) XU.out (e ▸ hg)),(KB.out _ su17).trans (hc.below (fun g _ hg=>by have:=XN.out;omega) (KB.out _ su17).size)⟩
   clear D1 D2 D3 XB;go_simp
   go_wp2_with fail;go_meet
   case rel=>exact⟨u13.heap.size,b1,b2,b4,p1,p2,p4,rfl,XU.out.set5 _ _ _ _ _,(FIN.out _ _ _ _ _).1,(FIN.out _ _ _ _ _).2.1,(FIN.out _ _ _ _ _).2.2.1,XN,(FIN.out _ _ _ _ _).2.2.2⟩
 case rest=>
 obtain⟨L,b1,b2,b4,p1,p2,p4,rfl,XL,D1,D2,D3,HL,BN⟩:=hcut
 have CS:=hid (YS.out.stepB BN.out (by have:=YN.out;omega))
 have CR:=hid (YR.out.stepB BN.out (by have:=YN.out;omega))
 have CB:=hid (BW.out _ BN.out)
 have HLZ:=hid ((Array.getElem?_eq_some_iff.1 XL.out).1)
 have HLs:=hid (Nat.le_trans YN.out HL.out)
 clear KEEP KB KA R1 R2 R3 L1 L2 L3 O1 O2 O3 Z1 Z2 Z3 hS YS YR;have EN:=hid (XL)
 go_wp2;go_loopw [4] (fun i wr=>∃(ys:List TV) (KF:Nat->Nat->Prop) (a5:Option Addr) (q5:Nat),i= .int .i64 (ys.length:Nat)/\ys.length<=n3/\Hid (Bf wr L #[.bool lf, .slice b1 n1 p1, .slice b2 n2 p2, .slice a5 ys.length q5, .slice b4 n4 p4])/\Hid (Ac wr wc.heap.size 69 5 (.slice a5 ys.length q5) ys.length (AA ys))/\Hid (∀i,i<ys.length->Aw n wr (KF i) (Ak ys i) (ts.getD i AR))/\Hid (∀i g,i<ys.length->KF i g->wc.heap.size<=g/\g<wr.heap.size/\¬wrB (.slice a5 ys.length q5) g)/\Hid (∀i j g,i<j->j<ys.length->KF i g->¬KF j g)/\Hid (Chg (fun g=>g=L) wc wr))
  (fun i _=>n3-(intOf i).toNat)
 case atStart=>exact⟨[],fun _ _=>False,none,0,rfl,Nat.zero_le _,EN,Ac.nil _ _ _ _,fun i hi=>absurd hi (Nat.not_lt_zero _),fun i g hi=>absurd hi (Nat.not_lt_zero _),fun i j g _ hj=>absurd hj (Nat.not_lt_zero _),Chg.refl _ _⟩
 case round=>
  obtain⟨ys,KF,a5,q5,rfl,hjn,BX,OW,TK,KP,KD,CH⟩:=hrel
  have CW:=hid (CB.out.trans (CH.out.below (fun g _ hg=>by have:=HLs.out;omega) CB.out.size))
  have ZZ:Hid (wc.heap.size<=wr.heap.size):=CH.out.size
  have PS:Hid (Bf wr w.heap.size #[.bool lf, .slice a1 n1 q1, .slice a2 n2 q2, .slice a3 n3 q3, .slice a4 n4 q4]):=CS.out.chg CH.out (by have:=HLs.out;omega)
  have PR:Hid (Bf wr (w.heap.size+1) #[.bool false, .slice none 0 0, .slice none 0 0, .slice none 0 0, .slice none 0 0]):=CR.out.chg CH.out (by have:=HLs.out;omega)
  clear EN;by_cases hlt:ys.length<n3
  ·have ha3:=HA.out (by omega)
   subst ha3;have hi1:(0:Int)<=(ys.length:Int):=by omega
   have hi2:(ys.length:Int)<(n3:Int):=by omega
   have hi3:ys.length<n3:=hlt
   have HG1:Hid (∀(w1:World),Below w.heap.size w w1->_):=fun w1 hb=>HG.out ys.length w1 hlt hb
   have DC1:Hid (∀(w1:World),Below w.heap.size w w1->_):=fun w1 hb=>DC.out ys.length w1 hb hlt
   obtain⟨r1,r2,r3,r4,s1,s2,s3,s4,hy⟩:=(HE.out ys.length hlt).shape
   rw[hy] at HG1 DC1
   generalize hKT:ts.getD ys.length AR=KT at *
   generalize KT.leaf=z0 at *
   generalize KT.pairs.length=z1 at *
   generalize KT.cuts.length=z2 at *
   generalize KT.kids.length=z3 at *
   generalize KT.buf.length=z4 at *
   try simp only at DC1
   clear HG HE DC HA FINAL hy PR CR;have c5:=(Cx BX.out).2.2.2.1
   have c3:=(Cx PS.out).2.2.2.1
   have SK:Hid (∀u,Below w.heap.size w u->Bf u L #[.bool lf, .slice b1 n1 p1, .slice b2 n2 p2, .slice a5 ys.length q5, .slice b4 n4 p4]->Bf u w.heap.size #[.bool lf, .slice a1 n1 q1, .slice a2 n2 q2, .slice (some ⟨b3,o3,none⟩) n3 q3, .slice a4 n4 q4]->(u.cell? ⟨L,3,none⟩=some (.slice a5 ys.length q5)/\u.cell? ⟨w.heap.size,3,none⟩=some (.slice (some ⟨b3,o3,none⟩) n3 q3)/\(u.cell? ⟨b3,o3+ys.length*5,none⟩=some (.bool z0)/\u.cell? ⟨b3,o3+ys.length*5+1,none⟩=some (.slice r1 z1 s1)/\u.cell? ⟨b3,o3+ys.length*5+2,none⟩=some (.slice r2 z2 s2)/\u.cell? ⟨b3,o3+ys.length*5+3,none⟩=some (.slice r3 z3 s3)/\u.cell? ⟨b3,o3+ys.length*5+4,none⟩=some (.slice r4 z4 s4)))):=fun u hb h1 h2=>⟨(Cx h1).2.2.2.1,(Cx h2).2.2.2.1,DC1.out u hb⟩
   have hS:wr.drew.cell? ⟨L,3,none⟩=some (.slice a5 ys.length q5)/\wr.drew.cell? ⟨w.heap.size,3,none⟩=some (.slice (some ⟨b3,o3,none⟩) n3 q3)/\(wr.drew.cell? ⟨b3,o3+ys.length*5,none⟩=some (.bool z0)/\wr.drew.cell? ⟨b3,o3+ys.length*5+1,none⟩=some (.slice r1 z1 s1)/\wr.drew.cell? ⟨b3,o3+ys.length*5+2,none⟩=some (.slice r2 z2 s2)/\wr.drew.cell? ⟨b3,o3+ys.length*5+3,none⟩=some (.slice r3 z3 s3)/\wr.drew.cell? ⟨b3,o3+ys.length*5+4,none⟩=some (.slice r4 z4 s4)):=SK.out wr.drew CW.out.drew BX.out PS.out
   have BXd:Hid (Bf wr.drew L #[.bool lf, .slice b1 n1 p1, .slice b2 n2 p2, .slice a5 ys.length q5, .slice b4 n4 p4]):=BX.out
   have PSd:Hid (Bf wr.drew w.heap.size #[.bool lf, .slice a1 n1 q1, .slice a2 n2 q2, .slice (some ⟨b3,o3,none⟩) n3 q3, .slice a4 n4 q4]):=PS.out
   have CWd:Hid (Below w.heap.size w wr.drew):=CW.out.drew
   have OWd:Hid (Ac wr.drew wc.heap.size 69 5 (.slice a5 ys.length q5) ys.length (AA ys)):=OW.out.below (Below.refl _ _).drew
   have TKd:Hid (∀i,i<ys.length->Aw n wr.drew (KF i) (Ak ys i) (ts.getD i AR)):=fun i hi=>(TK.out i hi).below (Below.refl _ _).drew
   have KPd:Hid (∀i g,i<ys.length->KF i g->wc.heap.size<=g/\g<wr.drew.heap.size/\¬wrB (.slice a5 ys.length q5) g):=KP
   have CHd:Hid (Chg (fun g=>g=L) wc wr.drew):=CH.out.drew
   have ZZd:Hid (wc.heap.size<=wr.drew.heap.size):=ZZ
   clear c5 BX PS CW OW TK KP CH ZZ;go_wp2_with fail;clear c3;refine Bx (fun u=>u.cell? ⟨L,3,none⟩=some (.slice a5 ys.length q5)/\u.cell? ⟨w.heap.size,3,none⟩=some (.slice (some ⟨b3,o3,none⟩) n3 q3)/\(u.cell? ⟨b3,o3+ys.length*5,none⟩=some (.bool z0)/\u.cell? ⟨b3,o3+ys.length*5+1,none⟩=some (.slice r1 z1 s1)/\u.cell? ⟨b3,o3+ys.length*5+2,none⟩=some (.slice r2 z2 s2)/\u.cell? ⟨b3,o3+ys.length*5+3,none⟩=some (.slice r3 z3 s3)/\u.cell? ⟨b3,o3+ys.length*5+4,none⟩=some (.slice r4 z4 s4))) [_,_,_,_,_,_,_,_,_,_,_] _ rfl (by kernel_rfl) (by kernel_rfl) ?_
   generalize wr.drew=wd at *
   refine tk 0 (oi:=⟨_,_,_,_,_,_⟩) (v:= ?_) rfl (by kernel_rfl) (fun _ _ _ h=>h) (Or.inl ⟨by rfl, ?_⟩) (by assumption) ?_
   rotate_left
   ·((intro w hSw;(try dsimp only at hSw);go_simp);(try with_reducible rfl))
   try simp only[Act.put,sA,sB,sC]
   refine tk 1 (oi:=⟨_,_,_,_,_,_⟩) (v:= ?_) rfl (by kernel_rfl) (fun _ _ _ h=>h) (Or.inl ⟨by rfl, ?_⟩) (by assumption) ?_
   rotate_left
   ·((intro w hSw;(try dsimp only at hSw);go_simp);(try with_reducible rfl))
   try simp only[Act.put,sA,sB,sC]
   refine tk 2 (oi:=⟨_,_,_,_,_,_⟩) (v:= ?_) rfl (by kernel_rfl) (fun _ _ _ h=>h) (Or.inl ⟨by rfl, ?_⟩) (by assumption) ?_
   rotate_left
   ·((intro w hSw;(try dsimp only at hSw);go_simp);(try with_reducible rfl))
   try simp only[Act.put,sA,sB,sC]
   refine tk 3 (oi:=⟨_,_,_,_,_,_⟩) (v:= ?_) rfl (by kernel_rfl) (fun _ _ _ h=>h) (Or.inl ⟨by rfl, ?_⟩) (by assumption) ?_
   rotate_left
   ·((intro w hSw;(try dsimp only at hSw);go_simp);(try with_reducible rfl))
   try simp only[Act.put,sA,sB,sC]
   refine tk 4 (oi:=⟨_,_,_,_,_,_⟩) (v:= ?_) rfl (by kernel_rfl) (fun _ _ _ h=>h) (Or.inl ⟨by rfl, ?_⟩) (by assumption) ?_
   rotate_left
   ·((intro w hSw;(try dsimp only at hSw);go_simp);(try with_reducible rfl))
   try simp only[Act.put,sA,sB,sC]
   refine tk 5 (oi:=⟨_,_,_,_,_,_⟩) (v:= ?_) rfl (by kernel_rfl) (fun _ _ _ h=>h) (Or.inl ⟨by rfl, ?_⟩) (by assumption) ?_
   rotate_left
   ·((intro w hSw;(try dsimp only at hSw);go_simp);(try with_reducible rfl))
   try simp only[Act.put,sA,sB,sC]
   refine tk 6 (oi:=⟨_,_,_,_,_,_⟩) (v:= ?_) rfl (by kernel_rfl) (fun _ _ _ h=>h) (Or.inl ⟨by rfl, ?_⟩) (by assumption) ?_
   rotate_left
   ·((intro w hSw;(try dsimp only at hSw);go_simp);(try with_reducible rfl))
   try simp only[Act.put,sA,sB,sC]
   refine wpAnyH_ready (rs:=[7]) (by kernel_rfl) (by simp) ?_
   refine AllReadyH.cons (o:=⟨_,_,_,_,_,_⟩) rfl (fun K hK=> ?_) AllReadyH.nil
   go_wp2_with fail;refine Calls.mono (HG1.out wd CWd.out) ?_
   rintro e w1 ⟨y,rfl,TY,hb1⟩
   obtain⟨e1,e2,e3,e4,t1,t2,t3,t4,hy⟩:=TY.treeF.treeAt.shape
   subst hy;have BX1:Hid (Bf w1 L #[.bool lf, .slice b1 n1 p1, .slice b2 n2 p2, .slice a5 ys.length q5, .slice b4 n4 p4]):=BXd.out.step hb1
   have PS1:Hid (Bf w1 w.heap.size #[.bool lf, .slice a1 n1 q1, .slice a2 n2 q2, .slice (some ⟨b3,o3,none⟩) n3 q3, .slice a4 n4 q4]):=PSd.out.step hb1
   have CW1:Hid (Below w.heap.size w w1):=Below.and CWd.out hb1
   have TY1:Hid (Aw n w1 (fun g=>wd.heap.size<=g/\g<w1.heap.size) ⟨KT.leaf, .slice e1 KT.pairs.length t1, .slice e2 KT.cuts.length t2, .slice e3 KT.kids.length t3, .slice e4 KT.buf.length t4⟩ KT):=TY.lt
   have LB1:Hid (Below wd.heap.size wd w1):=hb1
   generalize KT.leaf=y0 at *
   generalize KT.pairs.length=y1 at *
   generalize KT.cuts.length=y2 at *
   generalize KT.kids.length=y3 at *
   generalize KT.buf.length=y4 at *
   clear TY hb1 BXd PSd CWd;refine hK.out _ _ (SK.out w1 CW1.out BX1.out PS1.out) (fun hH=> ?_)
   clear hK K;try simp only[Act.put,sA,sB,sC]
   clear hH hS;refine wpAnyH_ready (rs:=[8]) (by kernel_rfl) (by simp) ?_
   refine AllReadyH.cons (o:=⟨_,_,_,_,_,_⟩) rfl (fun K hK=> ?_) AllReadyH.nil
   go_simp
   have BX2:Hid (Bf (w1.alloc (.cells #[.bool y0, .slice e1 y1 t1, .slice e2 y2 t2, .slice e3 y3 t3, .slice e4 y4 t4] 69)) L #[.bool lf, .slice b1 n1 p1, .slice b2 n2 p2, .slice a5 ys.length q5, .slice b4 n4 p4]):=BX1.out.step (al1 _ _)
   have PS2:Hid (Bf (w1.alloc (.cells #[.bool y0, .slice e1 y1 t1, .slice e2 y2 t2, .slice e3 y3 t3, .slice e4 y4 t4] 69)) w.heap.size #[.bool lf, .slice a1 n1 q1, .slice a2 n2 q2, .slice (some ⟨b3,o3,none⟩) n3 q3, .slice a4 n4 q4]):=PS1.out.step (al1 _ _)
   have CW2:Hid (Below w.heap.size w (w1.alloc (.cells #[.bool y0, .slice e1 y1 t1, .slice e2 y2 t2, .slice e3 y3 t3, .slice e4 y4 t4] 69))):=Below.and CW1.out (al1 _ _)
   refine hK.out _ _ (SK.out _ CW2.out BX2.out PS2.out) (fun hH=> ?_)
   clear hK K;try simp only[Act.put,sA,sB,sC]
   clear hH;refine wpAnyH_ready (rs:=[9]) (by kernel_rfl) (by simp) ?_
   refine AllReadyH.cons (o:=⟨_,_,_,_,_,_⟩) rfl (fun K hK=> ?_) AllReadyH.nil
   have LB2:Below wd.heap.size wd (w1.alloc (.cells #[.bool y0, .slice e1 y1 t1, .slice e2 y2 t2, .slice e3 y3 t3, .slice e4 y4 t4] 69)):=Below.and LB1.out (al1 _ _)
   have HR1:Hid (ys.length+1<=maxLen/\(ys.length+1)*104<=140737488355328):=⟨by unfold maxLen;omega,by omega⟩
   refine Bz (w1.alloc (.cells #[.bool y0, .slice e1 y1 t1, .slice e2 y2 t2, .slice e3 y3 t3, .slice e4 y4 t4] 69)) rfl _ _ 66 rfl wc.heap.size 69 i0 _ 5 104 Tryz.underlying66 hi0 hz0 hz1 hz2 rfl (by decide) (.slice a5 ys.length q5) ys.length (AA ys) rfl (OWd.out.below LB2) (.slice (some ⟨w1.heap.size,0,none⟩) 1 1) 1 (AA [⟨y0, .slice e1 y1 t1, .slice e2 y2 t2, .slice e3 y3 t3, .slice e4 y4 t4⟩]) rfl (Row.laid w1 [.bool y0, .slice e1 y1 t1, .slice e2 y2 t2, .slice e3 y3 t3, .slice e4 y4 t4] 69 _ rfl) rfl Ss HR1.out.1 HR1.out.2 (Nat.le_trans ZZd.out LB2.size) ?_
   intro v5 w5 A5;have hv5:=A5.1.slice
   obtain⟨a6,q6,hv5⟩:=hv5
   subst hv5;have NWz:∀g,wrB (.slice a5 ys.length q5) g->wc.heap.size<=g/\g<wd.heap.size:=fun g hg=>OWd.out.lt g hg
   have hz1:w1.heap.size+1=(w1.alloc (.cells #[.bool y0, .slice e1 y1 t1, .slice e2 y2 t2, .slice e3 y3 t3, .slice e4 y4 t4] 69)).heap.size:=by simp
   have hzd:wd.heap.size<=w1.heap.size:=LB1.out.size
   have hz5:w1.heap.size+1<=w5.heap.size:=by rw[hz1];exact A5.2.1.size
   have hLz:=HLZ.out
   have hLs:=HLs.out
   have BX5:Hid (Bf w5 L #[.bool lf, .slice b1 n1 p1, .slice b2 n2 p2, .slice a5 ys.length q5, .slice b4 n4 p4]):=BX2.out.chg A5.2.1 (fun h=>by have:=NWz _ h;omega)
   have PS5:Hid (Bf w5 w.heap.size #[.bool lf, .slice a1 n1 q1, .slice a2 n2 q2, .slice (some ⟨b3,o3,none⟩) n3 q3, .slice a4 n4 q4]):=PS2.out.chg A5.2.1 (fun h=>by have:=NWz _ h;omega)
   have CW5:Hid (Below w.heap.size w w5):=CW2.out.trans (A5.2.1.below (fun g _ hg=>by have:=NWz g hg;omega) CW2.out.size)
   have CH5:Hid (Chg (fun g=>g=L) wc w5):=(CHd.out.trans (Chg.of_below (F:=fun g=>g=L) LB2) (fun _ _ h=>h)).trans A5.2.1 (fun g hg h=>by have:=NWz g h;omega)
   have OW5:Hid (Ac w5 wc.heap.size 69 5 (.slice a6 (ys.length+1) q6) (ys.length+1) (AA (ys++[⟨y0, .slice e1 y1 t1, .slice e2 y2 t2, .slice e3 y3 t3, .slice e4 y4 t4⟩]))):=by
    have:=A5.1
    rw[←Kn] at this
    exact this
   have NW5:Hid (∀g,wrB (.slice a6 (ys.length+1) q6) g->wc.heap.size<=g/\(wrB (.slice a5 ys.length q5) g∨w1.heap.size+1<=g)):=fun g hg=>⟨(OW5.out.lt g hg).1,by rw[hz1];exact A5.2.2.2 g hg⟩
   have TK5:Hid (∀i,i<ys.length->Aw n w5 (KF i) (Ak ys i) (ts.getD i AR)):=fun i hi=>((TKd.out i hi).below LB2).chg A5.2.1 (fun g hg=>(KPd.out i g hi hg).2.2)
   have TY5:Hid (Aw n w5 (fun g=>wd.heap.size<=g/\g<w1.heap.size) ⟨y0, .slice e1 y1 t1, .slice e2 y2 t2, .slice e3 y3 t3, .slice e4 y4 t4⟩ KT):=(TY1.out.below (al1 _ _)).chg A5.2.1 (fun g hg h=>by have:=NWz g h;omega)
   have NWd:Hid (∀g,wrB (.slice a5 ys.length q5) g->wc.heap.size<=g/\g<wd.heap.size):=NWz
   have ZD:Hid (wd.heap.size<=w1.heap.size/\w1.heap.size+1<=w5.heap.size/\wc.heap.size<=wd.heap.size):=⟨hzd,hz5,ZZd.out⟩
   clear A5 NWz hz1 hzd hz5 LB2 OWd TKd TY1 BX2 PS2 CW2 BX1 PS1 CW1 CHd LB1 HG1;refine hK.out _ _ (SK.out w5 CW5.out BX5.out PS5.out) (fun hH=> ?_)
   clear hK K;try simp only[Act.put,sA,sB,sC]
   refine tk 10 (oi:=⟨_,_,_,_,_,_⟩) (v:= ?_) rfl (by kernel_rfl) (fun _ _ _ h=>h) (Or.inl ⟨by rfl, ?_⟩) (by assumption) ?_
   rotate_left
   ·((intro w hSw;(try dsimp only at hSw);go_simp);(try with_reducible rfl))
   try simp only[Act.put,sA,sB,sC]
   clear hH;obtain⟨⟨m0,m1,m2,m3,m4⟩,k0,k1,k2,k3,k4⟩:=EI BX5.out
   refine wpAnyH_done (by kernel_rfl) ?_ _
   show Oper.wp _ _ _ _ _ _
   go_simp
   have FIN:Hid (∀v,Ac (w5.setCell ⟨L,3,none⟩ v) wc.heap.size 69 5 (.slice a6 (ys.length+1) q6) (ys.length+1) (AA (ys++[⟨y0, .slice e1 y1 t1, .slice e2 y2 t2, .slice e3 y3 t3, .slice e4 y4 t4⟩]))/\(∀i,i<ys.length->Aw n (w5.setCell ⟨L,3,none⟩ v) (KF i) (Ak ys i) (ts.getD i AR))/\Aw n (w5.setCell ⟨L,3,none⟩ v) (fun g=>wd.heap.size<=g/\g<w1.heap.size) ⟨y0, .slice e1 y1 t1, .slice e2 y2 t2, .slice e3 y3 t3, .slice e4 y4 t4⟩ KT/\Chg (fun g=>g=L) wc (w5.setCell ⟨L,3,none⟩ v)/\(w5.setCell ⟨L,3,none⟩ v).heap.size=w5.heap.size):=fun v=>
    ⟨OW5.out.chg (Cg w5 L 3 v) (fun g hg e=>by have:=(NW5.out g hg).1;omega),fun i hi=>(TK5.out i hi).chg (Cg w5 L 3 v) (fun g hg e=>by have:=(KPd.out i g hi hg).1;omega),TY5.out.chg (Cg w5 L 3 v) (fun g hg e=>by have:=ZD.out;omega),CH5.out.trans (Cg w5 L 3 v) (fun _ _ h=>h),by simp⟩
   have BX6:Hid (∀v,Bf (w5.setCell ⟨L,3,none⟩ v) L #[.bool lf, .slice b1 n1 p1, .slice b2 n2 p2,v, .slice b4 n4 p4]):=fun v=>heap_setCell_same w5 L 3 _ 69 v BX5.out
   clear OW5 TK5 TY5 CH5 m0 m1 m2 m3 m4 k0 k1 k2 k3 k4 PS5 CW5;go_wp2_with fail;go_roundw
   case rel=>
    obtain⟨f1',f2',f3',f4',f5'⟩:=FIN.out (.slice a6 (ys.length+1) q6)
    have hln:(ys++[(⟨y0, .slice e1 y1 t1, .slice e2 y2 t2, .slice e3 y3 t3, .slice e4 y4 t4⟩:TV)]).length=ys.length+1:=by simp
    have hat:∀i,i<ys.length->Ak (ys++[(⟨y0, .slice e1 y1 t1, .slice e2 y2 t2, .slice e3 y3 t3, .slice e4 y4 t4⟩:TV)]) i=Ak ys i:=fun i hi=>by simp[Ak,List.getD,List.getElem?_append_left hi]
    have hal:Ak (ys++[(⟨y0, .slice e1 y1 t1, .slice e2 y2 t2, .slice e3 y3 t3, .slice e4 y4 t4⟩:TV)]) ys.length=⟨y0, .slice e1 y1 t1, .slice e2 y2 t2, .slice e3 y3 t3, .slice e4 y4 t4⟩:=by unfold Ak;simp[List.getD]
    have hzd:=ZD.out
    refine⟨ys++[⟨y0, .slice e1 y1 t1, .slice e2 y2 t2, .slice e3 y3 t3, .slice e4 y4 t4⟩],fun i g=>if i<ys.length then KF i g else (wd.heap.size<=g/\g<w1.heap.size),a6,q6,by rw[hln];go_num,by omega,by rw[hln];exact BX6.out _,by rw[hln];exact f1', ?_, ?_, ?_,f4'⟩
    ·intro i hi;rcases Nat.lt_or_ge i ys.length with h|h
     ·simp only[if_pos h]
      rw[hat i h]
      exact f2' i h
     ·have:i=ys.length:=by omega
      subst this;simp only[Nat.lt_irrefl,if_false]
      rw[hal,hKT]
      exact f3'
    ·intro i g hi hg;rcases Nat.lt_or_ge i ys.length with h|h
     ·simp only[if_pos h] at hg
      have h3:=KPd.out i g h hg
      refine⟨h3.1,by rw[f5'];omega,fun k=> ?_⟩
      rw[hln] at k
      rcases(NW5.out g k).2 with k|k
      ·exact h3.2.2 k
      ·omega
     ·simp only[if_neg (Nat.not_lt.2 h)] at hg
      refine⟨by omega,by rw[f5'];omega,fun k=> ?_⟩
      rw[hln] at k
      rcases(NW5.out g k).2 with k|k
      ·have:=NWd.out g k
       omega
      ·omega
    ·intro i j g hij hj hi hgj;have h:i<ys.length:=by omega
     simp only[if_pos h] at hi
     rcases Nat.lt_or_ge j ys.length with h' | h'
     ·simp only[if_pos h'] at hgj
      exact KD.out i j g hij h' hi hgj
     ·simp only[if_neg (Nat.not_lt.2 h')] at hgj
      have:=(KPd.out i g h hi).2.1
      omega
   case measure=>simp[intOf];omega
  ·have hjj:n3=ys.length:=by omega
   subst hjj;obtain⟨⟨m0,m1,m2,m3,m4⟩,k0,k1,k2,k3,k4⟩:=EI PR.out
   obtain⟨x0,x1,x2,x3,x4⟩:=Cx BX.out
   have c3:=(Cx PS.out).2.2.2.1
   have FIN:Hid (∀v0 v1 v2 v3 v4,Aw (n+1) (set5 wr (w.heap.size+1) v0 v1 v2 v3 v4) (fun g=>w.heap.size<=g) (⟨lf, .slice b1 n1 p1, .slice b2 n2 p2, .slice a5 ys.length q5, .slice b4 n4 p4⟩:TV) T/\Below w.heap.size w (set5 wr (w.heap.size+1) v0 v1 v2 v3 v4)):=fun v0 v1 v2 v3 v4=>by
    have hc:=Fm wr (w.heap.size+1) v0 v1 v2 v3 v4
    have hLs:=HLs.out
    have hyn:=YN.out
    have hbn:=BN.out.size
    have hcs:=CW.out.size
    have e1:=(D1.out.chg CH.out (fun g hg e=>D1.out.ne_one (by decide) XL.out (e ▸ hg))).chg hc (fun g hg e=>by have:=(D1.out.lt g hg).1;omega)
    have e2:=(D2.out.chg CH.out (fun g hg e=>D2.out.ne_one (by decide) XL.out (e ▸ hg))).chg hc (fun g hg e=>by have:=(D2.out.lt g hg).1;omega)
    have e3:=(D3.out.chg CH.out (fun g hg e=>D3.out.ne_one (by decide) XL.out (e ▸ hg))).chg hc (fun g hg e=>by have:=(D3.out.lt g hg).1;omega)
    have e4:=OW.out.chg hc (fun g hg e=>by have:=(OW.out.lt g hg).1;omega)
    refine⟨FINAL.out _ _ _ _ _ _ ys KF (e1.mono (Nat.zero_le _)) (e2.mono (Nat.zero_le _)) (e3.mono (Nat.zero_le _)) rfl (e4.mono (Nat.zero_le _)) (fun i hi=>(TK.out i hi).chg hc (fun g hg e=>by have:=(KP.out i g hi hg).1;omega)) (fun g hg=> ?_) (fun i g hi hg=> ?_) KD.out,CW.out.trans (hc.below (fun g _ hg=>by omega) CW.out.size)⟩
    ·rcases hg with h|h|h|h
     ·have:=(D1.out.lt g h).1;omega
     ·have:=(D2.out.lt g h).1;omega
     ·have:=(D3.out.lt g h).1;omega
     ·have:=(OW.out.lt g h).1;omega
    ·obtain⟨j1,j2,j3⟩:=KP.out i g hi hg
     refine⟨by omega,fun h=> ?_⟩
     rcases h with h|h|h|h
     ·have:=(D1.out.lt g h).2;omega
     ·have:=(D2.out.lt g h).2;omega
     ·have:=(D3.out.lt g h).2;omega
     ·exact j3 h
   clear HG HE DC HA FINAL BX PS PR CS CR CW OW TK KP KD CH D1 D2 D3;go_wp2;refine bodyPost_ret (v:= .agg #[.bool lf, .slice b1 n1 p1, .slice b2 n2 p2, .slice a5 ys.length q5, .slice b4 n4 p4]) (by simp[results,Tryz.results105,go_sem,m0,m1,m2,m3,m4]) rfl ⟨⟨lf, .slice b1 n1 p1, .slice b2 n2 p2, .slice a5 ys.length q5, .slice b4 n4 p4⟩,rfl,(FIN.out _ _ _ _ _).1,(FIN.out _ _ _ _ _).2⟩

theorem Lq:∀n,Nz n
 |0=>fun _ _ _ h=>h.elim
 |n+1=>R6 (Lq n)
end
end Go.Proofs.YtkcaelfkcepdkaaGreat
