/-
  The program's copier.kids.
  The program's copier.kids, of any list.
-/
import Derived.Test.YtnakaabnjelffaaGreatOfInject35
import Derived.BigQuiet
import Derived.BigRegion
namespace Go.Proofs.YtnakaabnjelffaaGreat
set_option maxRecDepth 100000
set_option maxHeartbeats 8000000
section
open Go.RowKit

theorem Tryz.info83:(Tryz.prog.info? 83).map (fun i=>(i.zero,i.size,i.bytes))=some (some (.pointer none),1,8):=by kernel_rfl

theorem Vv (C M:Nat) (V:Nat->Prop) (b o q:Nat) (xs:List TV) (vl:Value) (L:List Value) (cp:Nat) (w:World) (hC:Do w C #[.map (some M),vl, .int .i64 (cp:Nat)]) (hM:Bz w M V) (hL:As w 0 83 1 vl L.length L) (hr:Row w (.slice (some ⟨b,o,none⟩) xs.length q) xs.length (Ap xs)) (h1:∀y∈Ap xs,y.oneCell' =true) (hsl:∀i,i<xs.length->Slices (Ay xs i)) (hn:0<xs.length) (hn2:xs.length<=1048576) (hL2:L.length<=1048576) (hcp:cp+Cs xs xs.length<=1000000000000) (hp:Ek w b) (hno:¬V b∨cp<=100000) (hV:∀g,(V g∨g=b)->g<w.heap.size/\¬wrB vl g) :
  Calls Tryz.prog 50 #[.pointer (some ⟨C,0,none⟩), .slice (some ⟨b,o,none⟩) xs.length q] w fun e w' =>∃(K Q:Nat),e= .returned (.slice (some ⟨K,0,none⟩) xs.length Q)/\(∃vk:Value,Do w' C #[.map (some M),vk, .int .i64 ((cp+Cs xs xs.length:Nat):Nat)]/\As w' 0 83 1 vk (L.length+xs.length) (L++Gr K xs.length)/\As w' w.heap.size 29 5 (.slice (some ⟨K,0,none⟩) xs.length Q) xs.length (Ap xs)/\Bz w' M (fun g=>V g∨g=b)/\(∀g,wrB vk g->wrB vl g∨w.heap.size<=g)/\Chg (fun g=>g=C∨g=M∨wrB vl g) w w'):=by
 have HV:Hid (∀g,(V g∨g=b)->g<w.heap.size/\¬wrB vl g):=hV
 clear hV;obtain⟨i0,hi0,hz0,hz1,hz2⟩:=info_parts Tryz.info83
 have hu0:Tryz.prog.underlying 84=some (.slice 83):=by kernel_rfl
 have hn0:((xs.length:Int)==0)=false:=by rw[beq_eq_false_iff_ne];omega
 have hn1:(0:Int)<(xs.length:Int):=by omega
 have S0:Hid (Do (w.alloc (.cells #[.pointer (some ⟨b,o,none⟩), .int .i64 (xs.length:Nat)] 128)) C #[.map (some M),vl, .int .i64 (cp:Nat)]/\Bz (w.alloc (.cells #[.pointer (some ⟨b,o,none⟩), .int .i64 (xs.length:Nat)] 128)) M V/\Ek (w.alloc (.cells #[.pointer (some ⟨b,o,none⟩), .int .i64 (xs.length:Nat)] 128)) b/\(w.alloc (.cells #[.pointer (some ⟨b,o,none⟩), .int .i64 (xs.length:Nat)] 128)).heap[w.heap.size]? =some (.cells #[.pointer (some ⟨b,o,none⟩), .int .i64 (xs.length:Nat)] 128 (0,0))/\As (w.alloc (.cells #[.pointer (some ⟨b,o,none⟩), .int .i64 (xs.length:Nat)] 128)) 0 83 1 vl L.length L/\Below w.heap.size w (w.alloc (.cells #[.pointer (some ⟨b,o,none⟩), .int .i64 (xs.length:Nat)] 128))):=⟨hC.step (al1 _ _),hM.step (al1 _ _),(by obtain⟨c,t,h⟩:=hp;exact⟨c,t,((al1 w _).block b (Array.getElem?_eq_some_iff.1 h).1).trans h⟩),heap_alloc_new _ _,hL.below (al1 _ _),al1 _ _⟩
 have CL:Hid (∀u,Below w.heap.size w u->Calls Tryz.prog 91 #[.slice (some ⟨b,o,none⟩) xs.length q] u fun e w' =>∃v',e= .returned v' ∧As w' u.heap.size 29 5 v' xs.length (Ap xs)/\Below u.heap.size u w'):=fun u hu=>JP _ xs.length (Ap xs) u (hr.below hu) (Bj xs) h1 (by omega)
 have hCM:Hid (¬C=M/\C<w.heap.size/\M<w.heap.size/\∀g,wrB vl g->¬g=C/\¬g=M/\g<w.heap.size):=⟨hM.ne hC,(Array.getElem?_eq_some_iff.1 hC).1,(Array.getElem?_eq_some_iff.1 hM.choose_spec.choose_spec.1).1,fun g k=>⟨fun e=>hC.apart hL (by decide) (e ▸ k),fun e=>hM.apart hL (e ▸ k),(hL.lt g k).2⟩⟩
 clear hC hM hp hL hr h1;go_enter Tryz.func50,Tryz.ntmps50
 go_wp2;refine Cj (fun u=>Hid (Do u C #[.map (some M),vl, .int .i64 (cp:Nat)]/\Bz u M V/\Ek u b/\u.heap[w.heap.size]? =some (.cells #[.pointer (some ⟨b,o,none⟩), .int .i64 (xs.length:Nat)] 128 (0,0))/\As u 0 83 1 vl L.length L/\Below w.heap.size w u)) S0 ?_
 rintro wA SA
 clear S0;obtain⟨v,met,hlk,hmet⟩:=U3 (w:=wA) (M:=M) (V:=V) SA.out.2.1 ⟨b,o,none⟩ xs.length SA.out.2.2.1
 unfold Hh at hlk;have hlk2:∀k,(Instr.lookup 82 (.map (some M)) (.agg #[.pointer (some ⟨b,o,none⟩), .int .i64 (xs.length:Nat)]) true).run Tryz.prog (wA.drewN k)= .ok (.tuple #[v, .bool met]) (wA.drewN k):=fun k=>hlk _ (by simp)
 clear hlk;obtain⟨c0,c1,c2⟩:=SA.out.1.three
 have k0:wA.cell? ⟨w.heap.size,0,none⟩=some (.pointer (some ⟨b,o,none⟩)):=by rw[cell_of_row wA w.heap.size 0 _ 128 (0,0) SA.out.2.2.2.1];rfl
 have k1:wA.cell? ⟨w.heap.size,1,none⟩=some (.int .i64 (xs.length:Nat)):=by rw[cell_of_row wA w.heap.size 1 _ 128 (0,0) SA.out.2.2.2.1];rfl
 go_quiet (fail)
 have SB:Hid (Do (wA.drewN nq) C #[.map (some M),vl, .int .i64 (cp:Nat)]/\Bz (wA.drewN nq) M V/\Ek (wA.drewN nq) b/\(wA.drewN nq).heap[w.heap.size]? =some (.cells #[.pointer (some ⟨b,o,none⟩), .int .i64 (xs.length:Nat)] 128 (0,0))/\As (wA.drewN nq) 0 83 1 vl L.length L/\Below w.heap.size w (wA.drewN nq)):=by
  have hb:Below wA.heap.size wA (wA.drewN nq):=⟨rfl,rfl,rfl,Nat.le_refl _,fun _ _=>rfl⟩
  obtain⟨a1,a2,a3,a4,a5,a6⟩:=SA.out
  exact⟨a1.step hb,a2.step hb,a3,a4,a5.below hb,Below.and a6 hb⟩
 clear hlk2 c0 c1 c2 k0 k1 SA;generalize wA.drewN nq=wB at *
 obtain⟨c0,c1,c2⟩:=SB.out.1.three
 have hgo:met=true->¬((100000:Int)<(cp:Int)):=fun h=>by
  rcases hno with h2|h2
  ·exact absurd (hmet h) h2
  ·omega
 have C1:Hid _:=CL.out wB SB.out.2.2.2.2.2
 have hgo2:met=true->((100000:Int)<(cp:Int))=False:=fun h=>by simp[hgo h]
 clear hgo hmet hno;have HG2:Hid (met=true->((100000:Int)<(cp:Int))=False):=hgo2
 clear hgo2
 cases met
 case' true=>have hgo3:=HG2.out rfl
 all_goals
  go_wp2_with fail;refine Calls.mono C1.out ?_
  rintro e w1 ⟨v',rfl,o1,b1⟩
  obtain⟨K,Q,hv',hQ⟩:=o1.pos hn
  subst hv';have hm1:Bz w1.drew M V:=(SB.out.2.1.step b1).step (Below.refl _ _).drew
  have hp1:Ek w1.drew b:=by
   obtain⟨c,t,h⟩:=SB.out.2.2.1
   exact⟨c,t,(b1.block b (Array.getElem?_eq_some_iff.1 h).1).trans h⟩
  obtain⟨es',ck',hput,hm2⟩:=V5 hm1 ⟨b,o,none⟩ xs.length (.slice (some ⟨K,0,none⟩) xs.length Q) hp1
  unfold Hh at hput;have hC1:=SB.out.1.step b1
  obtain⟨d0,d1,d2⟩:=hC1.three
  have hk1:w1.heap[w.heap.size]? =some (.cells #[.pointer (some ⟨b,o,none⟩), .int .i64 (xs.length:Nat)] 128 (0,0)):=Ck b1 SB.out.2.2.2.1
  have k0:w1.cell? ⟨w.heap.size,0,none⟩=some (.pointer (some ⟨b,o,none⟩)):=by rw[cell_of_row w1 w.heap.size 0 _ 128 (0,0) hk1];rfl
  have k1:w1.cell? ⟨w.heap.size,1,none⟩=some (.int .i64 (xs.length:Nat)):=by rw[cell_of_row w1 w.heap.size 1 _ 128 (0,0) hk1];rfl
  clear hk1 hC1;go_wp2;go_region
  have J0:Hid (∃vk:Value,Do (setM w1.drew M (Obj.map es' ck')) C #[.map (some M),vk, .int .i64 ((cp+Cs xs 0:Nat):Nat)]/\As (setM w1.drew M (Obj.map es' ck')) 0 83 1 vk (L.length+0) (L++Gr K 0)/\As (setM w1.drew M (Obj.map es' ck')) w.heap.size 29 5 (.slice (some ⟨K,0,none⟩) xs.length Q) xs.length (Ap xs)/\Bz (setM w1.drew M (Obj.map es' ck')) M (fun g=>V g∨g=b)/\(∀g,wrB vk g->wrB vl g∨w.heap.size<=g)/\Chg (fun g=>g=C∨g=M∨wrB vl g) w (setM w1.drew M (Obj.map es' ck'))):=by
   have hcm:=hCM.out
   have B1:Below wB.heap.size wB w1.drew:=Below.and b1 (Below.refl _ _).drew
   have hB:=Below.and SB.out.2.2.2.2.2 B1
   have hCh:Chg (fun g=>g=C∨g=M∨wrB vl g) w w1.drew:=⟨hB.os,hB.tape,hB.output,hB.size,fun k hk _=>hB.block k hk⟩
   refine⟨vl, ?_, ?_,(o1.drew.chg (FH _ _ _) ?_).mono ?_,hm2,fun g h=> .inl h,hCh.trans (FH _ _ _) (fun g _ h=> .inr (.inl h))⟩
   ·have:=((SB.out.1.step B1).chg (FH w1.drew M (Obj.map es' ck')) hcm.1)
    simpa[Cs] using this
   ·have:=((SB.out.2.2.2.2.1.below B1).chg (FH w1.drew M (Obj.map es' ck')) (fun g h=>(hcm.2.2.2 g h).2.1))
    simpa[Gr] using this
   ·intro g h e;have:=(o1.lt g h).1
    have:=SB.out.2.2.2.2.2.size
    omega
   ·exact SB.out.2.2.2.2.2.size
  clear hput hm2 hm1 hp1 d0 d1 d2 k0 k1 o1 b1 C1 c0 c1 c2 SB CL HG2;try clear hgo3
  generalize setM w1.drew M (Obj.map es' ck')=wC at *
  go_wp2;go_loopw [48] (fun ix wr=>∃k:Nat,ix= .int .i64 k/\k<=xs.length/\Hid (∃vk:Value,Do wr C #[.map (some M),vk, .int .i64 ((cp+Cs xs k:Nat):Nat)]/\As wr 0 83 1 vk (L.length+k) (L++Gr K k)/\As wr w.heap.size 29 5 (.slice (some ⟨K,0,none⟩) xs.length Q) xs.length (Ap xs)/\Bz wr M (fun g=>V g∨g=b)/\(∀g,wrB vk g->wrB vl g∨w.heap.size<=g)/\Chg (fun g=>g=C∨g=M∨wrB vl g) w wr))
   (fun ix _=>xs.length-(intOf ix).toNat)
  case atStart=>exact⟨0,rfl,Nat.zero_le _,J0⟩
  case round=>
   obtain⟨k,rfl,hk,JJ⟩:=hrel
   clear J0;by_cases hlt:k<xs.length
   ·obtain⟨vk,j1,j2,j3,j4,j5,j6⟩:=JJ.out
    obtain⟨r1,r2,r3,r4,z1,z2,z3,z4,s1,s2,s3,s4,hx⟩:=hsl k hlt
    have C0:wr.cell? ⟨K,k*5+1,none⟩=some (.slice r1 z1 s1)/\wr.cell? ⟨K,k*5+2,none⟩=some (.slice r2 z2 s2)/\wr.cell? ⟨K,k*5+4,none⟩=some (.slice r4 z4 s4):=by
     obtain⟨a',b',off',cap',t1,t2,t3,t4,t5,t6,t7,t8,t9⟩:=j3.rowF.row.trees
     injection t1 with t1
     have t4' :=t4 hn
     rw[←t1] at t4'
     injection t4' with t4'
     injection t4' with e1 e2
     have q1:=t6 k hlt
     have q2:=t7 k hlt
     have q3:=t9 k hlt
     rw[hx, ← e1, ← e2,Nat.zero_add] at q1 q2 q3
     exact⟨q1,q2,q3⟩
    have hw:Cs xs (k+1)=Cs xs k+(1+z1+z2+z4):=by
     rw[Iu xs k hlt,show xs[k]=Ay xs k by simp[Ay,List.getD,hlt],hx]
     rfl
    have hwm:Cs xs (k+1)<=Cs xs xs.length:=by
     have:=Um xs (xs.length-(k+1)) (k+1)
     rwa [show k+1+(xs.length-(k+1))=xs.length by omega] at this
    have hb12:cp+Cs xs k+(1+z1+z2+z4)<=1000000000000:=by omega
    obtain⟨g0,g1,g2⟩:=C0
    obtain⟨d0,d1,d2⟩:=j1.three
    have f1:=j1.free 1
    have f2:=j1.free 2
    have hk0:(0:Int)<=(k:Int):=by omega
    have hkn:(k:Int)<(xs.length:Int):=by omega
    obtain⟨ak,qk,hvk⟩:=j2.slice
    subst hvk;have J6:Hid _:=And.intro j1 (And.intro j2 (And.intro j3 (And.intro j4 (And.intro j5 j6))))
    clear j1 j2 j3 j4 j5 j6 hx JJ;have HW:Hid (Cs xs (k+1)=Cs xs k+(1+z1+z2+z4)):=hw
    clear hw hwm;generalize Cs xs k=W at *
    go_wp2;go_region
    have hX:((cp:Int)+(W:Int)+(1+(z1:Int)+(z2:Int)+(z4:Int)))=((cp+Cs xs (k+1):Nat):Int):=by
     have:=HW.out
     omega
    rw[hX]
    have JD:Hid (Do (wr.setCell ⟨C,2,none⟩ (.int .i64 ((cp+Cs xs (k+1):Nat):Int))).drew.drew C #[.map (some M), .slice ak (L.length+k) qk, .int .i64 ((cp+Cs xs (k+1):Nat):Nat)]/\As (wr.setCell ⟨C,2,none⟩ (.int .i64 ((cp+Cs xs (k+1):Nat):Int))).drew.drew 0 83 1 (.slice ak (L.length+k) qk) (L.length+k) (L++Gr K k)/\As (wr.setCell ⟨C,2,none⟩ (.int .i64 ((cp+Cs xs (k+1):Nat):Int))).drew.drew w.heap.size 29 5 (.slice (some ⟨K,0,none⟩) xs.length Q) xs.length (Ap xs)/\Bz (wr.setCell ⟨C,2,none⟩ (.int .i64 ((cp+Cs xs (k+1):Nat):Int))).drew.drew M (fun g=>V g∨g=b)/\(∀g,wrB (.slice ak (L.length+k) qk) g->wrB vl g∨w.heap.size<=g)/\Chg (fun g=>g=C∨g=M∨wrB vl g) w (wr.setCell ⟨C,2,none⟩ (.int .i64 ((cp+Cs xs (k+1):Nat):Int))).drew.drew):=by
     obtain⟨j1,j2,j3,j4,j5,j6⟩:=J6.out
     have hch:=At wr C 2 (.int .i64 ((cp+Cs xs (k+1):Nat):Int))
     have hdd:∀u:World,Below u.heap.size u u.drew.drew:=fun u=>Below.and (Below.refl _ _).drew (Below.refl _ _).drew
     exact⟨(j1.set2 _).step (hdd _),(j2.chg hch (fun g hg e=>j1.apart j2 (by decide) (e ▸ hg))).below (hdd _),(j3.chg hch (fun g hg e=>j1.apart j3 (by decide) (e ▸ hg))).below (hdd _),(j4.set ⟨_,_,j1⟩ _).step (hdd _),j5,(j6.trans hch (fun g _ h=> .inl h)).trans (Chg.of_below (hdd _)) (fun g _ h=>h)⟩
    clear J6 d0 d1 d2 f1 f2 g0 g1 g2 hX;generalize hWd:wr.setCell ⟨C,2,none⟩ (.int .i64 ((cp+Cs xs (k+1):Nat):Int))=wd0 at *
    clear hWd;generalize hcz:cp+Cs xs (k+1)=cz at *
    have HCZ:Hid (cp+Cs xs (k+1)=cz):=hcz
    clear hcz;go_wp2_with fail;have hS:=JD.out.1.three.2.1
    refine wp_region_held_drew (S:=fun _=>True) (by kernel_rfl) trivial (fun hH=> ?_)
    generalize wd0.drew.drew=wd at *
    refine tq 0 rfl (by kernel_rfl) (fun _ _ _ h=>h) (by assumption) rfl (by intro w h;go_simp<;>with_reducible rfl) ?_
    try simp only[Act.put,sA,sB,sC]
    refine tq 1 rfl (by kernel_rfl) (fun _ _ _ h=>h) (by assumption) rfl (by intro w h;go_simp<;>with_reducible rfl) ?_
    try simp only[Act.put,sA,sB,sC]
    refine tq 2 rfl (by kernel_rfl) (fun _ _ _ h=>h) (by assumption) rfl (by intro w h;go_simp<;>with_reducible rfl) ?_
    try simp only[Act.put,sA,sB,sC]
    refine tq 3 rfl (by kernel_rfl) (fun _ _ _ h=>h) (by assumption) rfl (by intro w h;go_simp<;>with_reducible rfl) ?_
    try simp only[Act.put,sA,sB,sC]
    refine tq 5 rfl (by kernel_rfl) (fun _ _ _ h=>h) (by assumption) rfl (by intro w h;go_simp<;>with_reducible rfl) ?_
    try simp only[Act.put,sA,sB,sC]
    refine tq 6 rfl (by kernel_rfl) (fun _ _ _ h=>h) (by assumption) rfl (by intro w h;go_simp<;>with_reducible rfl) ?_
    try simp only[Act.put,sA,sB,sC]
    refine tq 7 rfl (by kernel_rfl) (fun _ _ _ h=>h) (by assumption) rfl (by intro w h;go_simp<;>with_reducible rfl) ?_
    try simp only[Act.put,sA,sB,sC]
    have hS2:=Ac (al1 wd (.cells #[.pointer (some ⟨K,k*5,none⟩)] 83)) (Aa hS) hS
    refine wpAnyH_ready (rs:=[4,8]) (by kernel_rfl) (by simp) ?_
    refine AllReadyH.cons (o:=⟨_,_,_,_,_,_⟩) rfl (fun K2 hK=> ?_) (AllReadyH.cons (o:=⟨_,_,_,_,_,_⟩) rfl (fun K2 hK=> ?_) AllReadyH.nil)
    all_goals
     go_simp
     refine hK.out _ _ trivial (fun hH2=> ?_)
     clear hK K2 hH;have hH:=hH2
     clear hH2;try simp only[Act.put,sA,sB,sC]
    case' refine_1=>
     refine wpAnyH_ready (rs:=[8]) (by kernel_rfl) (by simp) ?_
     refine AllReadyH.cons (o:=⟨_,_,_,_,_,_⟩) rfl (fun K2 hK=> ?_) AllReadyH.nil
     go_simp
     refine hK.out _ _ trivial (fun hH2=> ?_)
     clear hK K2 hH;have hH:=hH2
     clear hH2;try simp only[Act.put,sA,sB,sC]
    case' refine_2=>
     refine wpAnyH_ready (rs:=[4]) (by kernel_rfl) (by simp) ?_
     refine AllReadyH.cons (o:=⟨_,_,_,_,_,_⟩) rfl (fun K2 hK=> ?_) AllReadyH.nil
     go_simp
     refine hK.out _ _ trivial (fun hH2=> ?_)
     clear hK K2 hH;have hH:=hH2
     clear hH2;try simp only[Act.put,sA,sB,sC]
    all_goals
     refine wpAnyH_ready (rs:=[9]) (by kernel_rfl) (by simp) ?_
     refine AllReadyH.cons (o:=⟨_,_,_,_,_,_⟩) rfl (fun K2 hK=> ?_) AllReadyH.nil
     have HR1:Hid _:=Bl (n:=L.length+k) (bytes:=8) (by omega) (by decide)
     obtain⟨jd1,jd2,jd3,jd4,jd5,jd6⟩:=JD.out
     refine Bi (wd.alloc (.cells #[.pointer (some ⟨K,k*5,none⟩)] 83)) rfl _ _ 84 rfl 0 83 i0 _ 1 8 hu0 hi0 hz0 hz1 hz2 rfl (by decide) (.slice ak (L.length+k) qk) (L.length+k) (L++Gr K k) rfl (jd2.alloc _) (.slice (some ⟨wd.heap.size,0,none⟩) 1 1) 1 [.pointer (some ⟨K,k*5,none⟩)] rfl (Row.laid wd [.pointer (some ⟨K,k*5,none⟩)] 83 _ rfl) rfl (fun y hy=>by simp at hy;subst hy;rfl) HR1.out.1 HR1.out.2 (Nat.zero_le _) ?_
     intro v5 w5 A5;obtain⟨a5,q5,hv5⟩:=A5.1.slice
     subst hv5;have hCv:¬wrB (.slice ak (L.length+k) qk) C:=jd1.apart jd2 (by decide)
     have hMv:¬wrB (.slice ak (L.length+k) qk) M:=jd4.apart jd2
     have B5:Do w5 C #[.map (some M), .slice ak (L.length+k) qk, .int .i64 (cz:Nat)]:=(jd1.step (al1 wd _)).chg A5.2.1 hCv
     have FIN:Hid (∃vk' :Value,Do (w5.setCell ⟨C,1,none⟩ (.slice a5 (L.length+k+1) q5)) C #[.map (some M),vk', .int .i64 ((cp+Cs xs (k+1):Nat):Nat)]/\As (w5.setCell ⟨C,1,none⟩ (.slice a5 (L.length+k+1) q5)) 0 83 1 vk' (L.length+(k+1)) (L++Gr K (k+1))/\As (w5.setCell ⟨C,1,none⟩ (.slice a5 (L.length+k+1) q5)) w.heap.size 29 5 (.slice (some ⟨K,0,none⟩) xs.length Q) xs.length (Ap xs)/\Bz (w5.setCell ⟨C,1,none⟩ (.slice a5 (L.length+k+1) q5)) M (fun g=>V g∨g=b)/\(∀g,wrB vk' g->wrB vl g∨w.heap.size<=g)/\Chg (fun g=>g=C∨g=M∨wrB vl g) w (w5.setCell ⟨C,1,none⟩ (.slice a5 (L.length+k+1) q5))):=by
      have k3:As w5 w.heap.size 29 5 (.slice (some ⟨K,0,none⟩) xs.length Q) xs.length (Ap xs):=(jd3.alloc _).chg A5.2.1 (fun g hg=>jd3.apart jd2 (by decide) g hg)
      have hch:=At w5 C 1 (.slice a5 (L.length+k+1) q5)
      refine⟨.slice a5 (L.length+k+1) q5, ?_, ?_,k3.chg hch (fun g hg e=>B5.apart k3 (by decide) (e ▸ hg)), ?_,fun g hg=> ?_, ?_⟩
      ·rw[HCZ.out]
       exact B5.set1 _
      ·have k2:=A5.1.chg hch (fun g hg e=>B5.apart A5.1 (by decide) (e ▸ hg))
       rw[UI, ← List.append_assoc]
       exact k2
      ·exact((jd4.step (al1 wd _)).keep A5.2.1 hMv (fun g hg hw=>by
        rcases jd5 g hw with h|h
        ·exact(HV.out g hg).2 h
        ·have:=(HV.out g hg).1
         omega)).set ⟨_,_,B5⟩ _
      ·rcases A5.2.2.2 g hg with h|h
       ·exact jd5 g h
       ·have:=jd6.size
        rw[World.size_alloc] at h
        exact .inr (by omega)
      ·refine((jd6.trans (Chg.of_below (F:=fun _=>False) (al1 wd _)) (fun g _ h=>h.elim)).trans A5.2.1 (fun g hl h=> ?_)).trans hch (fun g _ h=> .inl h)
       rcases jd5 g h with h|h
       ·exact .inr (.inr h)
       ·omega
     have D1:=B5.three.2.1
     have F1:=B5.free 1
     clear jd1 jd2 jd3 jd4 jd5 jd6 A5 hCv hMv B5;refine hK.out _ _ trivial (fun hH2=> ?_)
     clear hK K2 hH;have hH:=hH2
     clear hH2;try simp only[Act.put,sA,sB,sC]
     refine tq 10 rfl (by kernel_rfl) (fun _ _ _ h=>h) (by assumption) rfl (by intro w h;go_simp<;>with_reducible rfl) ?_
     try simp only[Act.put,sA,sB,sC]
     refine tq 11 rfl (by kernel_rfl) (fun _ _ _ h=>h) (by assumption) rfl (by intro w h;go_simp<;>with_reducible rfl) ?_
     try simp only[Act.put,sA,sB,sC]
     refine wpAnyH_ready (rs:=[12]) (by kernel_rfl) (by simp) ?_
     refine AllReadyH.cons (o:=⟨_,_,_,_,_,_⟩) rfl (fun K2 hK=> ?_) AllReadyH.nil
     go_simp
     refine hK.out _ _ trivial (fun hH2=> ?_)
     clear hK K2 hH;have hH:=hH2
     clear hH2;try simp only[Act.put,sA,sB,sC]
     refine wpAnyH_done (by kernel_rfl) ?_ _
     clear D1 F1 hH hS hS2 JD HCZ HW;generalize w5.setCell ⟨C,1,none⟩ (.slice a5 (L.length+k+1) q5)=w6 at *
     go_wp2;go_roundw
     case rel=>exact⟨k+1,by go_num,by omega,FIN⟩
     case measure=>simp[intOf];omega
   ·have hke:k=xs.length:=by omega
    subst hke;go_wp2;go_ret;exact⟨K,Q,rfl,JJ.out⟩
end
section
open Go.RowKit

theorem Vf (C:Nat) (v:Value) (w:World) (hr:Row w v 0 []) :
  Calls Tryz.prog 50 #[.pointer (some ⟨C,0,none⟩),v] w fun e w' =>∃v',e= .returned v' ∧As w' w.heap.size 29 5 v' 0 []/\Below w.heap.size w w' :=by
 have CL:Hid (Calls Tryz.prog 91 #[v] w fun e w' =>∃v',e= .returned v' ∧As w' w.heap.size 29 5 v' 0 []/\Below w.heap.size w w'):=JP v 0 [] w hr rfl (fun y hy=>by cases hy) (by omega)
 obtain⟨a,q,hv,_⟩:=hr.len
 subst hv;clear hr;go_enter Tryz.func50,Tryz.ntmps50
 go_wp2_with fail;refine CL.out.mono ?_
 rintro e w1 ⟨v',rfl,o1,b1⟩
 have O1:Hid _:=And.intro o1 b1
 clear o1 b1 CL;go_wp2;go_ret;exact⟨_,rfl,O1.out.1,O1.out.2⟩

theorem Uw (C M:Nat) (V F:Nat->Prop) (v:Value) (xs:List TV) (vl:Value) (L:List Value) (cp:Nat) (w:World) (hC:Do w C #[.map (some M),vl, .int .i64 (cp:Nat)]) (hM:Bz w M V) (hL:As w 0 83 1 vl L.length L) (hr:Aj w F v xs.length (Ap xs)) (h1:∀y∈Ap xs,y.oneCell' =true) (hsl:∀i,i<xs.length->Slices (Ay xs i)) (hn2:xs.length<=1048576) (hL2:L.length<=1048576) (hcp:cp+Cs xs xs.length<=1000000000000) (hno:∀b o q,v= .slice (some ⟨b,o,none⟩) xs.length q->0<xs.length->¬V b∨cp<=100000) (hVl:∀g,V g->g<w.heap.size/\¬wrB vl g) (hFl:∀g,F g->¬wrB vl g) :
  Calls Tryz.prog 50 #[.pointer (some ⟨C,0,none⟩),v] w fun e w' =>∃(vk vl' :Value) (K b:Nat),e= .returned vk/\(0<xs.length->(∃Q,vk= .slice (some ⟨K,0,none⟩) xs.length Q)/\F b/\∃o q,v= .slice (some ⟨b,o,none⟩) xs.length q)/\Do w' C #[.map (some M),vl', .int .i64 ((cp+Cs xs xs.length:Nat):Nat)]/\As w' 0 83 1 vl' (L++Gr K xs.length).length (L++Gr K xs.length)/\As w' w.heap.size 29 5 vk xs.length (Ap xs)/\Bz w' M (fun g=>V g∨(0<xs.length/\g=b))/\(∀g,wrB vl' g->wrB vl g∨w.heap.size<=g)/\Chg (fun g=>g=C∨g=M∨wrB vl g) w w' :=by
 rcases Nat.eq_zero_or_pos xs.length with h0|h0
 ·have hx:xs=[]:=List.length_eq_zero_iff.1 h0
  subst hx;refine(Vf C v w hr.row).mono (fun e w' ⟨v',he,ho,hb⟩=>⟨v',vl,0,0,he,fun h=>by simp at h, ?_, ?_,ho, ?_,fun g hg=> .inl hg,Chg.of_below hb⟩)
  ·have:=hC.step hb
   simpa[Cs] using this
  ·have:=hL.below hb
   simpa[Gr] using this
  ·have:=hM.step hb
   obtain⟨es,ck,h1,h2⟩:=this
   exact⟨es,ck,h1,fun e he=>by obtain⟨a,n,k1,k2,k3⟩:=h2 e he;exact⟨a,n,k1,k2, .inl k3⟩⟩
 ·obtain⟨a,b,off,cap,hv,hle,hmax,ha,hcell,hnil,_⟩:=hr
  obtain⟨ha1,ha2,ha3⟩:=ha h0
  subst ha1 hv;have hrow:Row w (.slice (some ⟨b,off,none⟩) xs.length cap) xs.length (Ap xs):=⟨_,b,off,cap,rfl,hle,hmax,fun _=>rfl,hcell,fun h=>by cases h⟩
  refine(Vv C M V b off cap xs vl L cp w hC hM hL hrow h1 hsl h0 hn2 hL2 hcp ha3 (hno b off cap rfl h0) (fun g hg=>by
   rcases hg with hg|rfl
   ·exact hVl g hg
   ·exact⟨ha3.lt,hFl _ ha2⟩)).mono (fun e w' ⟨K,Q,he,vk,k1,k2,k3,k4,k5,k6⟩=>⟨_,vk,K,b,he,fun _=>⟨⟨Q,rfl⟩,ha2,off,cap,rfl⟩,k1, ?_,k3, ?_,k5,k6⟩)
  ·rw[List.length_append,Hy]
   exact k2
  ·obtain⟨es,ck,h1,h2⟩:=k4
   exact⟨es,ck,h1,fun e he=>by
    obtain⟨a,n,q1,q2,q3⟩:=h2 e he
    exact⟨a,n,q1,q2,q3.imp id (fun h=>⟨h0,h⟩)⟩⟩
end
end Go.Proofs.YtnakaabnjelffaaGreat
