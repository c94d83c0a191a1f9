/-
  The walk of the law FnExactInject.
-/
import Derived.Test.YtcmofojechfccaaGreatOfInject47
import Derived.Test.YtcmofojechfccaaGreatOfInject51
import Derived.Deep.RegionHeld3
namespace Go.Proofs.YtcmofojechfccaaGreat
set_option maxRecDepth 100000
set_option maxHeartbeats 8000000
section
open Go.RowKit

theorem run_toMsg (args:Array Value) (w:World):(callFunc 11 args).run Tryz.prog w= .ok (.enter 11 args) w:=by go_simp
theorem run_specInject (args:Array Value) (w:World):(callFunc 9 args).run Tryz.prog w= .ok (.enter 9 args) w:=by go_simp
theorem run_implInject (args:Array Value) (w:World):(callFunc 12 args).run Tryz.prog w= .ok (.enter 12 args) w:=by go_simp

theorem fnExactInject_any (n:Nat) (hn:7<=n) (x:TV) (T:Tr) (mo mk mv:Int) (w:World) (h:TreeAt n w x T) :
  Calls Tryz.prog 3 #[x.val, .agg #[.int .i64 mo, .int .i64 mk, .int .i64 mv]] w fun e w' =>e= .returned (.bool true)/\Below w.heap.size w w' :=by
 obtain⟨dl,dP,dQ,dR,dS⟩:=x
 obtain⟨d1,d2,d3,d4,d5,d6,d7,d8,d9,da,db,dc,hxd⟩:=h.slices
 simp only[TV.mk.injEq,true_and] at hxd
 obtain⟨hxd1,hxd2,hxd3,hxd4⟩:=hxd
 subst hxd1 hxd2 hxd3 hxd4
 have TT:Hid (TreeAt n w (TV.mk dl (.slice d1 d5 d9) (.slice d2 d6 da) (.slice d3 d7 db) (.slice d4 d8 dc)) T):=h
 clear h
 have SZ0:Hid (∀u,Below w.heap.size w u->Calls Tryz.prog 8 #[.agg #[.bool dl, .slice d1 d5 d9, .slice d2 d6 da, .slice d3 d7 db, .slice d4 d8 dc], .int .i64 1048576] u fun e w' =>e= .returned (.int .i64 (leftOf 1048576 (sizeT n T)))/\Below u.heap.size u w'):=fun u hu=>szTree_any n (TV.mk dl (.slice d1 d5 d9) (.slice d2 d6 da) (.slice d3 d7 db) (.slice d4 d8 dc)) T 1048576 u (TT.out.below hu) (by omega) (by omega)
 have SB:Hid (Below w.heap.size w ((w.alloc (.cells #[.bool dl, .slice d1 d5 d9, .slice d2 d6 da, .slice d3 d7 db, .slice d4 d8 dc] 27)).alloc (.cells #[.int .i64 mo, .int .i64 mk, .int .i64 mv] 29))):=Below.and (al1 _ _) (al1 _ _)
 have B0:Hid (LB 27 ((w.alloc (.cells #[.bool dl, .slice d1 d5 d9, .slice d2 d6 da, .slice d3 d7 db, .slice d4 d8 dc] 27)).alloc (.cells #[.int .i64 mo, .int .i64 mk, .int .i64 mv] 29)) w.heap.size #[.bool dl, .slice d1 d5 d9, .slice d2 d6 da, .slice d3 d7 db, .slice d4 d8 dc]):=(LB.new _ _ _).below (al1 _ _)
 have BM:Hid (LB 29 ((w.alloc (.cells #[.bool dl, .slice d1 d5 d9, .slice d2 d6 da, .slice d3 d7 db, .slice d4 d8 dc] 27)).alloc (.cells #[.int .i64 mo, .int .i64 mk, .int .i64 mv] 29)) (w.heap.size+1) #[.int .i64 mo, .int .i64 mk, .int .i64 mv]):=LB.new1 _ _ _ (by simp)
 have kB0:=B0.out.cells
 show Calls Tryz.prog 3 #[.agg #[.bool dl, .slice d1 d5 d9, .slice d2 d6 da, .slice d3 d7 db, .slice d4 d8 dc], .agg #[.int .i64 mo, .int .i64 mk, .int .i64 mv]] w _
 by_cases hbig:(sizeT n T:Int)<=1048576
 ·have hs:sizeT n T<=1048576:=by omega
  have SZ:Hid (∀u,Below w.heap.size w u->Calls Tryz.prog 8 #[.agg #[.bool dl, .slice d1 d5 d9, .slice d2 d6 da, .slice d3 d7 db, .slice d4 d8 dc], .int .i64 1048576] u fun e w' =>e= .returned (.int .i64 (1048576-sizeT n T))/\Below u.heap.size u w'):=fun u hu=>by
   have:=SZ0.out u hu
   rw[leftOf_yes hbig] at this
   exact this
  have TO:Hid (∀u,Below w.heap.size w u->Calls Tryz.prog 10 #[.agg #[.bool dl, .slice d1 d5 d9, .slice d2 d6 da, .slice d3 d7 db, .slice d4 d8 dc]] u fun e w' =>∃y:TV,e= .returned y.val/\TreeD n w' (fun g=>u.heap.size<=g) y T/\Below u.heap.size u w'):=fun u hu=>toTreeD_any n (TV.mk dl (.slice d1 d5 d9) (.slice d2 d6 da) (.slice d3 d7 db) (.slice d4 d8 dc)) T u (TT.out.below hu) hs
  have TM:Hid (∀u,Calls Tryz.prog 11 #[.agg #[.int .i64 mo, .int .i64 mk, .int .i64 mv]] u fun e w' =>e= .returned (.agg #[.int .i64 mo, .int .i64 mk, .int .i64 mv])/\Below u.heap.size u w'):=fun u=>toMsg_any mo mk mv u
  have SP:Hid (∀(u:World) (y:TV),TreeAt n u y T->Calls Tryz.prog 9 #[y.val, .agg #[.int .i64 mo, .int .i64 mk, .int .i64 mv]] u fun e w' =>∃z:TV,e= .returned z.val/\TreeD n w' (fun g=>u.heap.size<=g) z (injF T (mo,mk,mv))/\Below u.heap.size u w'):=fun u y hy=>(specInject_any n y T mo mk mv u hy (by omega)).mono (fun e w' ⟨z,N,he,hz,hb⟩=>⟨z,he,hz.fit hn TT.out (injF_fit T (mo,mk,mv)),hb⟩)
  have IP:Hid (∀(u:World) (y:TV) (F:Nat->Prop),TreeD n u F y T->Calls Tryz.prog 12 #[y.val, .agg #[.int .i64 mo, .int .i64 mk, .int .i64 mv]] u fun e w' =>∃z:TV,e= .returned z.val/\TreeD n w' (fun g=>u.heap.size<=g) z (injF T (mo,mk,mv))/\Below u.heap.size u w'):=fun u y F hy=>implInject_any n hn y T F mo mk mv u hy hs
  have hk1:1+((mkT n T:Nat):Int)<=4194304:=by have:=mkT_le n T;omega
  have hk2:1+((mkT n (injF T (mo,mk,mv)):Nat):Int)<=4194304:=by have:=mkT_le n (injF T (mo,mk,mv));have:=size_fit hn TT.out hs (injF_fit T (mo,mk,mv));omega
  generalize injF T (mo,mk,mv)=T2 at *
  have hneg:¬((1048576:Int)-(sizeT n T:Int)<0):=by omega
  generalize ((1048576:Int)-(sizeT n T:Int))=left at *
  generalize hmx:1+((mkT n T:Nat):Int)=mx at *
  have HMX:Hid _:=hmx
  generalize hmg:1+((mkT n T2:Nat):Int)=mg at *
  have HMG:Hid _:=hmg
  have hmx0:¬(mx<0):=by omega
  have hmg0:¬(mg<0):=by omega
  have hmgg:(mg != mg)=false:=by simp
  clear hmx hmg hbig SZ0 hs
  go_enter Tryz.func3,Tryz.ntmps3
  go_wp2_with fail
  generalize ((w.alloc (.cells #[.bool dl, .slice d1 d5 d9, .slice d2 d6 da, .slice d3 d7 db, .slice d4 d8 dc] 27)).alloc (.cells #[.int .i64 mo, .int .i64 mk, .int .i64 mv] 29))=W at *
  refine(SZ.out _ SB.out).mono ?_
  rintro e w1 ⟨rfl,b1⟩
  clear kB0
  replace SB:=hid (Below.and SB.out b1)
  replace B0:=hid (B0.out.below b1)
  replace BM:=hid (BM.out.below b1)
  have y1:w.heap.size<w1.heap.size:=B0.out.lt
  have y1m:w.heap.size+1<w1.heap.size:=BM.out.lt
  clear b1
  go_wp2_with fail
  go_cut [6] (fun s wx=>∃(L:Nat) (z:TV),s= .pointer (some ⟨L,0,none⟩)/\Hid (Got n T2 w1 z L wx))
  case first=>
   have KEEP:Hid (∀u,Below w1.heap.size w1 u->(fun u=>(∀j,u.cell? ⟨w.heap.size,j,none⟩= #[.bool dl, .slice d1 d5 d9, .slice d2 d6 da, .slice d3 d7 db, .slice d4 d8 dc][j]?)/\∀j,u.cell? ⟨w.heap.size+1,j,none⟩= #[.int .i64 mo, .int .i64 mk, .int .i64 mv][j]?) u):=fun u hu=>⟨(B0.out.below hu).cells,(BM.out.below hu).cells⟩
   have RL:Hid (Below w1.heap.size w1 w1.drew):=(Below.refl _ _).drew
   refine wp_region_held_drew (S:=(fun u=>(∀j,u.cell? ⟨w.heap.size,j,none⟩= #[.bool dl, .slice d1 d5 d9, .slice d2 d6 da, .slice d3 d7 db, .slice d4 d8 dc][j]?)/\∀j,u.cell? ⟨w.heap.size+1,j,none⟩= #[.int .i64 mo, .int .i64 mk, .int .i64 mv][j]?)) (by kernel_rfl) (KEEP.out _ RL.out) (fun hH=> ?_)
   generalize w1.drew=c1 at *
   refine tk 0 (oi:=⟨_,_,_,_,_,_⟩) (v:= ?_) rfl (by kernel_rfl) (fun _ _ _ h=>h) (Or.inl ⟨by rfl, ?_⟩) (by assumption) ?_
   rotate_left
   ·((intro w hSw;(try dsimp only at hSw);obtain⟨hSa,hSb⟩:=hSw;go_simp);(try with_reducible rfl))
   try simp only[Act.put,sA,sB,sC]
   refine tk 2 (oi:=⟨_,_,_,_,_,_⟩) (v:= ?_) rfl (by kernel_rfl) (fun _ _ _ h=>h) (Or.inl ⟨by rfl, ?_⟩) (by assumption) ?_
   rotate_left
   ·((intro w hSw;(try dsimp only at hSw);obtain⟨hSa,hSb⟩:=hSw;go_simp);(try with_reducible rfl))
   try simp only[Act.put,sA,sB,sC]
   refine wpAnyH_ready (rs:=[1,5]) (by kernel_rfl) (by simp) ?_
   refine AllReadyH.cons (o:=⟨_,_,_,_,_,_⟩) rfl (fun K hK=> ?_) (AllReadyH.cons (o:=⟨_,_,_,_,_,_⟩) rfl (fun K hK=> ?_) AllReadyH.nil)
   ·skip
    refine(if_pos (show Region.wanted _ _=true by kernel_rfl)).mpr ?_
    refine call_by 10 [.tmp 18] #[27] rfl run_toTree [.agg #[.bool dl, .slice d1 d5 d9, .slice d2 d6 da, .slice d3 d7 db, .slice d4 d8 dc]] rfl (TO.out _ (Below.and SB.out RL.out)) ?_
    rintro e c2 ⟨yt,rfl,ot,b⟩
    replace RL:=hid (Below.and RL.out b)
    obtain⟨sl,sP,sQ,sR,sS⟩:=yt
    obtain⟨s1,s2,s3,s4,s5,s6,s7,s8,s9,sa,sb,sc,hxs⟩:=ot.treeF.slices
    simp only[TV.mk.injEq,true_and] at hxs
    obtain⟨hxs1,hxs2,hxs3,hxs4⟩:=hxs
    subst hxs1 hxs2 hxs3 hxs4
    have OT:=hid ot
    clear ot b
    refine⟨_,rfl, ?_⟩
    refine hK.out _ _ (KEEP.out _ RL.out) (fun hH2=> ?_)
    clear hK K hH
    have hH:=hH2
    clear hH2
    try simp only[Act.put,sA,sB,sC]
    refine wpAnyH_ready (rs:=[3,5]) (by kernel_rfl) (by simp) ?_
    refine AllReadyH.cons (o:=⟨_,_,_,_,_,_⟩) rfl (fun K hK=> ?_) (AllReadyH.cons (o:=⟨_,_,_,_,_,_⟩) rfl (fun K hK=> ?_) AllReadyH.nil)
    ·skip
     refine(if_pos (show Region.wanted _ _=true by kernel_rfl)).mpr ?_
     refine call_by 11 [.tmp 20] #[29] rfl run_toMsg [.agg #[.int .i64 mo, .int .i64 mk, .int .i64 mv]] rfl (TM.out _) ?_
     rintro e c3 ⟨rfl,b⟩
     replace RL:=hid (Below.and RL.out b)
     replace OT:=hid (OT.out.below b)
     clear b
     refine⟨_,rfl, ?_⟩
     refine hK.out _ _ (KEEP.out _ RL.out) (fun hH2=> ?_)
     clear hK K hH
     have hH:=hH2
     clear hH2
     try simp only[Act.put,sA,sB,sC]
     refine wpAnyH_ready (rs:=[4,5]) (by kernel_rfl) (by simp) ?_
     refine AllReadyH.cons (o:=⟨_,_,_,_,_,_⟩) rfl (fun K hK=> ?_) (AllReadyH.cons (o:=⟨_,_,_,_,_,_⟩) rfl (fun K hK=> ?_) AllReadyH.nil)
     ·skip
      refine(if_pos (show Region.wanted _ _=true by kernel_rfl)).mpr ?_
      refine call_by 9 [.tmp 19, .tmp 21] #[35,38] rfl run_specInject [(TV.mk sl (.slice s1 s5 s9) (.slice s2 s6 sa) (.slice s3 s7 sb) (.slice s4 s8 sc)).val, .agg #[.int .i64 mo, .int .i64 mk, .int .i64 mv]] rfl (SP.out _ (TV.mk sl (.slice s1 s5 s9) (.slice s2 s6 sa) (.slice s3 s7 sb) (.slice s4 s8 sc)) OT.out.treeF.treeAt) ?_
      have hcu:=RL.out.size
      rintro e c4 ⟨zz,rfl,tr,b⟩
      replace RL:=hid (Below.and RL.out b)
      replace OT:=hid (OT.out.below b)
      have hsp2:=b.size
      obtain⟨zl,zP,zQ,zR,zS⟩:=zz
      obtain⟨z1,z2,z3,z4,z5,z6,z7,z8,z9,za,zb,zc,hxz⟩:=tr.treeF.slices
      simp only[TV.mk.injEq,true_and] at hxz
      obtain⟨hxz1,hxz2,hxz3,hxz4⟩:=hxz
      subst hxz1 hxz2 hxz3 hxz4
      have TR:=hid tr.lt
      clear tr b
      refine⟨_,rfl, ?_⟩
      refine hK.out _ _ (KEEP.out _ RL.out) (fun hH2=> ?_)
      clear hK K hH
      have hH:=hH2
      clear hH2
      try simp only[Act.put,sA,sB,sC]
      refine wpAnyH_ready (rs:=[5]) (by kernel_rfl) (by simp) ?_
      refine AllReadyH.cons (o:=⟨_,_,_,_,_,_⟩) rfl (fun K hK=> ?_) AllReadyH.nil
      go_simp
      have hsep:c4.heap.size<=c4.heap.size:=by first|exact Nat.le_refl _|omega
      have hbs:=RL.out.size
      replace RL:=hid (Below.and RL.out (al1 c4 (.cells #[.bool false, .slice none 0 0, .slice none 0 0, .slice none 0 0, .slice none 0 0] 35)))
      replace OT:=hid (OT.out.below (al1 c4 (.cells #[.bool false, .slice none 0 0, .slice none 0 0, .slice none 0 0, .slice none 0 0] 35)))
      replace TR:=hid (TR.out.below (al1 c4 (.cells #[.bool false, .slice none 0 0, .slice none 0 0, .slice none 0 0, .slice none 0 0] 35)))
      have AL:Hid (LB 35 (c4.alloc (.cells #[.bool false, .slice none 0 0, .slice none 0 0, .slice none 0 0, .slice none 0 0] 35)) c4.heap.size #[.bool false, .slice none 0 0, .slice none 0 0, .slice none 0 0, .slice none 0 0]/\w1.heap.size<=c4.heap.size):=⟨LB.new _ _ _,hbs⟩
      refine hK.out _ _ (KEEP.out _ RL.out) (fun hH2=> ?_)
      clear hK K hH
      have hH:=hH2
      clear hH2
      try simp only[Act.put,sA,sB,sC]
      generalize (c4.alloc (.cells #[.bool false, .slice none 0 0, .slice none 0 0, .slice none 0 0, .slice none 0 0] 35))=c5 at *
      generalize c4.heap.size=L6 at *
      have bz:BoxT c5 L6 #[.bool false, .slice none 0 0, .slice none 0 0, .slice none 0 0, .slice none 0 0]:=AL.out.1
      have q8c:=bz.cells
      have q9f:=bz.free
      have hle:=AL.out.2
      have BB:Below w1.heap.size w1 (setT c5 L6 (.bool zl) (.slice z1 z5 z9) (.slice z2 z6 za) (.slice z3 z7 zb) (.slice z4 z8 zc)):=setT_below RL.out hle _ _ _ _ _
      have GT:Hid (Got n T2 w1 (TV.mk zl (.slice z1 z5 z9) (.slice z2 z6 za) (.slice z3 z7 zb) (.slice z4 z8 zc)) L6 (setT c5 L6 (.bool zl) (.slice z1 z5 z9) (.slice z2 z6 za) (.slice z3 z7 zb) (.slice z4 z8 zc))):=⟨bz.set5 _ _ _ _ _,(TR.out.chg (chg_setT c5 L6 _ _ _ _ _) (fun g hg e=>by omega)).mono (fun g hg=>by omega),hle,BB⟩
      have KB:=KEEP.out _ BB
      clear BB TR bz RL OT
      refine wpAnyH_ready (rs:=[6]) (by kernel_rfl) (by simp) ?_
      refine AllReadyH.cons (o:=⟨_,_,_,_,_,_⟩) rfl (fun K hK=> ?_) AllReadyH.nil
      go_simp
      refine hK.out _ _ (KB) (fun hH2=> ?_)
      clear hK K hH
      have hH:=hH2
      clear hH2
      try simp only[Act.put,sA,sB,sC]
      refine wpAnyH_done (by kernel_rfl) ?_ _
      clear KB hH q8c q9f KEEP
      go_wp2_with fail
      go_meet
      case rel=>exact⟨L6,(TV.mk zl (.slice z1 z5 z9) (.slice z2 z6 za) (.slice z3 z7 zb) (.slice z4 z8 zc)),rfl,GT⟩
     ·skip
      go_simp
      have hbs:=RL.out.size
      replace RL:=hid (Below.and RL.out (al1 c3 (.cells #[.bool false, .slice none 0 0, .slice none 0 0, .slice none 0 0, .slice none 0 0] 35)))
      replace OT:=hid (OT.out.below (al1 c3 (.cells #[.bool false, .slice none 0 0, .slice none 0 0, .slice none 0 0, .slice none 0 0] 35)))
      have AL:Hid (LB 35 (c3.alloc (.cells #[.bool false, .slice none 0 0, .slice none 0 0, .slice none 0 0, .slice none 0 0] 35)) c3.heap.size #[.bool false, .slice none 0 0, .slice none 0 0, .slice none 0 0, .slice none 0 0]/\w1.heap.size<=c3.heap.size):=⟨LB.new _ _ _,hbs⟩
      refine hK.out _ _ (KEEP.out _ RL.out) (fun hH2=> ?_)
      clear hK K hH
      have hH:=hH2
      clear hH2
      try simp only[Act.put,sA,sB,sC]
      generalize (c3.alloc (.cells #[.bool false, .slice none 0 0, .slice none 0 0, .slice none 0 0, .slice none 0 0] 35))=c7 at *
      generalize c3.heap.size=L8 at *
      refine wpAnyH_ready (rs:=[4]) (by kernel_rfl) (by simp) ?_
      refine AllReadyH.cons (o:=⟨_,_,_,_,_,_⟩) rfl (fun K hK=> ?_) AllReadyH.nil
      refine(if_pos (show Region.wanted _ _=true by kernel_rfl)).mpr ?_
      refine call_by 9 [.tmp 19, .tmp 21] #[35,38] rfl run_specInject [(TV.mk sl (.slice s1 s5 s9) (.slice s2 s6 sa) (.slice s3 s7 sb) (.slice s4 s8 sc)).val, .agg #[.int .i64 mo, .int .i64 mk, .int .i64 mv]] rfl (SP.out _ (TV.mk sl (.slice s1 s5 s9) (.slice s2 s6 sa) (.slice s3 s7 sb) (.slice s4 s8 sc)) OT.out.treeF.treeAt) ?_
      have hsep:=AL.out.1.lt
      have hcu:=RL.out.size
      rintro e c9 ⟨zz,rfl,tr,b⟩
      replace RL:=hid (Below.and RL.out b)
      replace AL:=hid (And.intro (AL.out.1.below b) AL.out.2)
      replace OT:=hid (OT.out.below b)
      obtain⟨zl,zP,zQ,zR,zS⟩:=zz
      obtain⟨z1,z2,z3,z4,z5,z6,z7,z8,z9,za,zb,zc,hxz⟩:=tr.treeF.slices
      simp only[TV.mk.injEq,true_and] at hxz
      obtain⟨hxz1,hxz2,hxz3,hxz4⟩:=hxz
      subst hxz1 hxz2 hxz3 hxz4
      have TR:=hid tr.lt
      clear tr b
      refine⟨_,rfl, ?_⟩
      refine hK.out _ _ (KEEP.out _ RL.out) (fun hH2=> ?_)
      clear hK K hH
      have hH:=hH2
      clear hH2
      try simp only[Act.put,sA,sB,sC]
      have bz:BoxT c9 L8 #[.bool false, .slice none 0 0, .slice none 0 0, .slice none 0 0, .slice none 0 0]:=AL.out.1
      have q8c:=bz.cells
      have q9f:=bz.free
      have hle:=AL.out.2
      have BB:Below w1.heap.size w1 (setT c9 L8 (.bool zl) (.slice z1 z5 z9) (.slice z2 z6 za) (.slice z3 z7 zb) (.slice z4 z8 zc)):=setT_below RL.out hle _ _ _ _ _
      have GT:Hid (Got n T2 w1 (TV.mk zl (.slice z1 z5 z9) (.slice z2 z6 za) (.slice z3 z7 zb) (.slice z4 z8 zc)) L8 (setT c9 L8 (.bool zl) (.slice z1 z5 z9) (.slice z2 z6 za) (.slice z3 z7 zb) (.slice z4 z8 zc))):=⟨bz.set5 _ _ _ _ _,(TR.out.chg (chg_setT c9 L8 _ _ _ _ _) (fun g hg e=>by omega)).mono (fun g hg=>by omega),hle,BB⟩
      have KB:=KEEP.out _ BB
      clear BB TR bz RL OT
      refine wpAnyH_ready (rs:=[6]) (by kernel_rfl) (by simp) ?_
      refine AllReadyH.cons (o:=⟨_,_,_,_,_,_⟩) rfl (fun K hK=> ?_) AllReadyH.nil
      go_simp
      refine hK.out _ _ (KB) (fun hH2=> ?_)
      clear hK K hH
      have hH:=hH2
      clear hH2
      try simp only[Act.put,sA,sB,sC]
      refine wpAnyH_done (by kernel_rfl) ?_ _
      clear KB hH q8c q9f KEEP
      go_wp2_with fail
      go_meet
      case rel=>exact⟨L8,(TV.mk zl (.slice z1 z5 z9) (.slice z2 z6 za) (.slice z3 z7 zb) (.slice z4 z8 zc)),rfl,GT⟩
    ·skip
     go_simp
     have hbs:=RL.out.size
     replace RL:=hid (Below.and RL.out (al1 c2 (.cells #[.bool false, .slice none 0 0, .slice none 0 0, .slice none 0 0, .slice none 0 0] 35)))
     replace OT:=hid (OT.out.below (al1 c2 (.cells #[.bool false, .slice none 0 0, .slice none 0 0, .slice none 0 0, .slice none 0 0] 35)))
     have AL:Hid (LB 35 (c2.alloc (.cells #[.bool false, .slice none 0 0, .slice none 0 0, .slice none 0 0, .slice none 0 0] 35)) c2.heap.size #[.bool false, .slice none 0 0, .slice none 0 0, .slice none 0 0, .slice none 0 0]/\w1.heap.size<=c2.heap.size):=⟨LB.new _ _ _,hbs⟩
     refine hK.out _ _ (KEEP.out _ RL.out) (fun hH2=> ?_)
     clear hK K hH
     have hH:=hH2
     clear hH2
     try simp only[Act.put,sA,sB,sC]
     generalize (c2.alloc (.cells #[.bool false, .slice none 0 0, .slice none 0 0, .slice none 0 0, .slice none 0 0] 35))=c10 at *
     generalize c2.heap.size=L11 at *
     refine wpAnyH_ready (rs:=[3]) (by kernel_rfl) (by simp) ?_
     refine AllReadyH.cons (o:=⟨_,_,_,_,_,_⟩) rfl (fun K hK=> ?_) AllReadyH.nil
     refine(if_pos (show Region.wanted _ _=true by kernel_rfl)).mpr ?_
     refine call_by 11 [.tmp 20] #[29] rfl run_toMsg [.agg #[.int .i64 mo, .int .i64 mk, .int .i64 mv]] rfl (TM.out _) ?_
     rintro e c12 ⟨rfl,b⟩
     replace RL:=hid (Below.and RL.out b)
     replace AL:=hid (And.intro (AL.out.1.below b) AL.out.2)
     replace OT:=hid (OT.out.below b)
     clear b
     refine⟨_,rfl, ?_⟩
     refine hK.out _ _ (KEEP.out _ RL.out) (fun hH2=> ?_)
     clear hK K hH
     have hH:=hH2
     clear hH2
     try simp only[Act.put,sA,sB,sC]
     refine wpAnyH_ready (rs:=[4]) (by kernel_rfl) (by simp) ?_
     refine AllReadyH.cons (o:=⟨_,_,_,_,_,_⟩) rfl (fun K hK=> ?_) AllReadyH.nil
     refine(if_pos (show Region.wanted _ _=true by kernel_rfl)).mpr ?_
     refine call_by 9 [.tmp 19, .tmp 21] #[35,38] rfl run_specInject [(TV.mk sl (.slice s1 s5 s9) (.slice s2 s6 sa) (.slice s3 s7 sb) (.slice s4 s8 sc)).val, .agg #[.int .i64 mo, .int .i64 mk, .int .i64 mv]] rfl (SP.out _ (TV.mk sl (.slice s1 s5 s9) (.slice s2 s6 sa) (.slice s3 s7 sb) (.slice s4 s8 sc)) OT.out.treeF.treeAt) ?_
     have hsep:=AL.out.1.lt
     have hcu:=RL.out.size
     rintro e c13 ⟨zz,rfl,tr,b⟩
     replace RL:=hid (Below.and RL.out b)
     replace AL:=hid (And.intro (AL.out.1.below b) AL.out.2)
     replace OT:=hid (OT.out.below b)
     obtain⟨zl,zP,zQ,zR,zS⟩:=zz
     obtain⟨z1,z2,z3,z4,z5,z6,z7,z8,z9,za,zb,zc,hxz⟩:=tr.treeF.slices
     simp only[TV.mk.injEq,true_and] at hxz
     obtain⟨hxz1,hxz2,hxz3,hxz4⟩:=hxz
     subst hxz1 hxz2 hxz3 hxz4
     have TR:=hid tr.lt
     clear tr b
     refine⟨_,rfl, ?_⟩
     refine hK.out _ _ (KEEP.out _ RL.out) (fun hH2=> ?_)
     clear hK K hH
     have hH:=hH2
     clear hH2
     try simp only[Act.put,sA,sB,sC]
     have bz:BoxT c13 L11 #[.bool false, .slice none 0 0, .slice none 0 0, .slice none 0 0, .slice none 0 0]:=AL.out.1
     have q8c:=bz.cells
     have q9f:=bz.free
     have hle:=AL.out.2
     have BB:Below w1.heap.size w1 (setT c13 L11 (.bool zl) (.slice z1 z5 z9) (.slice z2 z6 za) (.slice z3 z7 zb) (.slice z4 z8 zc)):=setT_below RL.out hle _ _ _ _ _
     have GT:Hid (Got n T2 w1 (TV.mk zl (.slice z1 z5 z9) (.slice z2 z6 za) (.slice z3 z7 zb) (.slice z4 z8 zc)) L11 (setT c13 L11 (.bool zl) (.slice z1 z5 z9) (.slice z2 z6 za) (.slice z3 z7 zb) (.slice z4 z8 zc))):=⟨bz.set5 _ _ _ _ _,(TR.out.chg (chg_setT c13 L11 _ _ _ _ _) (fun g hg e=>by omega)).mono (fun g hg=>by omega),hle,BB⟩
     have KB:=KEEP.out _ BB
     clear BB TR bz RL OT
     refine wpAnyH_ready (rs:=[6]) (by kernel_rfl) (by simp) ?_
     refine AllReadyH.cons (o:=⟨_,_,_,_,_,_⟩) rfl (fun K hK=> ?_) AllReadyH.nil
     go_simp
     refine hK.out _ _ (KB) (fun hH2=> ?_)
     clear hK K hH
     have hH:=hH2
     clear hH2
     try simp only[Act.put,sA,sB,sC]
     refine wpAnyH_done (by kernel_rfl) ?_ _
     clear KB hH q8c q9f KEEP
     go_wp2_with fail
     go_meet
     case rel=>exact⟨L11,(TV.mk zl (.slice z1 z5 z9) (.slice z2 z6 za) (.slice z3 z7 zb) (.slice z4 z8 zc)),rfl,GT⟩
   ·skip
    go_simp
    have hbs:=RL.out.size
    replace RL:=hid (Below.and RL.out (al1 c1 (.cells #[.bool false, .slice none 0 0, .slice none 0 0, .slice none 0 0, .slice none 0 0] 35)))
    have AL:Hid (LB 35 (c1.alloc (.cells #[.bool false, .slice none 0 0, .slice none 0 0, .slice none 0 0, .slice none 0 0] 35)) c1.heap.size #[.bool false, .slice none 0 0, .slice none 0 0, .slice none 0 0, .slice none 0 0]/\w1.heap.size<=c1.heap.size):=⟨LB.new _ _ _,hbs⟩
    refine hK.out _ _ (KEEP.out _ RL.out) (fun hH2=> ?_)
    clear hK K hH
    have hH:=hH2
    clear hH2
    try simp only[Act.put,sA,sB,sC]
    generalize (c1.alloc (.cells #[.bool false, .slice none 0 0, .slice none 0 0, .slice none 0 0, .slice none 0 0] 35))=c14 at *
    generalize c1.heap.size=L15 at *
    refine wpAnyH_ready (rs:=[1]) (by kernel_rfl) (by simp) ?_
    refine AllReadyH.cons (o:=⟨_,_,_,_,_,_⟩) rfl (fun K hK=> ?_) AllReadyH.nil
    refine(if_pos (show Region.wanted _ _=true by kernel_rfl)).mpr ?_
    refine call_by 10 [.tmp 18] #[27] rfl run_toTree [.agg #[.bool dl, .slice d1 d5 d9, .slice d2 d6 da, .slice d3 d7 db, .slice d4 d8 dc]] rfl (TO.out _ (Below.and SB.out RL.out)) ?_
    rintro e c16 ⟨yt,rfl,ot,b⟩
    replace RL:=hid (Below.and RL.out b)
    replace AL:=hid (And.intro (AL.out.1.below b) AL.out.2)
    obtain⟨sl,sP,sQ,sR,sS⟩:=yt
    obtain⟨s1,s2,s3,s4,s5,s6,s7,s8,s9,sa,sb,sc,hxs⟩:=ot.treeF.slices
    simp only[TV.mk.injEq,true_and] at hxs
    obtain⟨hxs1,hxs2,hxs3,hxs4⟩:=hxs
    subst hxs1 hxs2 hxs3 hxs4
    have OT:=hid ot
    clear ot b
    refine⟨_,rfl, ?_⟩
    refine hK.out _ _ (KEEP.out _ RL.out) (fun hH2=> ?_)
    clear hK K hH
    have hH:=hH2
    clear hH2
    try simp only[Act.put,sA,sB,sC]
    refine wpAnyH_ready (rs:=[3]) (by kernel_rfl) (by simp) ?_
    refine AllReadyH.cons (o:=⟨_,_,_,_,_,_⟩) rfl (fun K hK=> ?_) AllReadyH.nil
    refine(if_pos (show Region.wanted _ _=true by kernel_rfl)).mpr ?_
    refine call_by 11 [.tmp 20] #[29] rfl run_toMsg [.agg #[.int .i64 mo, .int .i64 mk, .int .i64 mv]] rfl (TM.out _) ?_
    rintro e c17 ⟨rfl,b⟩
    replace RL:=hid (Below.and RL.out b)
    replace AL:=hid (And.intro (AL.out.1.below b) AL.out.2)
    replace OT:=hid (OT.out.below b)
    clear b
    refine⟨_,rfl, ?_⟩
    refine hK.out _ _ (KEEP.out _ RL.out) (fun hH2=> ?_)
    clear hK K hH
    have hH:=hH2
    clear hH2
    try simp only[Act.put,sA,sB,sC]
    refine wpAnyH_ready (rs:=[4]) (by kernel_rfl) (by simp) ?_
    refine AllReadyH.cons (o:=⟨_,_,_,_,_,_⟩) rfl (fun K hK=> ?_) AllReadyH.nil
    refine(if_pos (show Region.wanted _ _=true by kernel_rfl)).mpr ?_
    refine call_by 9 [.tmp 19, .tmp 21] #[35,38] rfl run_specInject [(TV.mk sl (.slice s1 s5 s9) (.slice s2 s6 sa) (.slice s3 s7 sb) (.slice s4 s8 sc)).val, .agg #[.int .i64 mo, .int .i64 mk, .int .i64 mv]] rfl (SP.out _ (TV.mk sl (.slice s1 s5 s9) (.slice s2 s6 sa) (.slice s3 s7 sb) (.slice s4 s8 sc)) OT.out.treeF.treeAt) ?_
    have hsep:=AL.out.1.lt
    have hcu:=RL.out.size
    rintro e c18 ⟨zz,rfl,tr,b⟩
    replace RL:=hid (Below.and RL.out b)
    replace AL:=hid (And.intro (AL.out.1.below b) AL.out.2)
    replace OT:=hid (OT.out.below b)
    obtain⟨zl,zP,zQ,zR,zS⟩:=zz
    obtain⟨z1,z2,z3,z4,z5,z6,z7,z8,z9,za,zb,zc,hxz⟩:=tr.treeF.slices
    simp only[TV.mk.injEq,true_and] at hxz
    obtain⟨hxz1,hxz2,hxz3,hxz4⟩:=hxz
    subst hxz1 hxz2 hxz3 hxz4
    have TR:=hid tr.lt
    clear tr b
    refine⟨_,rfl, ?_⟩
    refine hK.out _ _ (KEEP.out _ RL.out) (fun hH2=> ?_)
    clear hK K hH
    have hH:=hH2
    clear hH2
    try simp only[Act.put,sA,sB,sC]
    have bz:BoxT c18 L15 #[.bool false, .slice none 0 0, .slice none 0 0, .slice none 0 0, .slice none 0 0]:=AL.out.1
    have q8c:=bz.cells
    have q9f:=bz.free
    have hle:=AL.out.2
    have BB:Below w1.heap.size w1 (setT c18 L15 (.bool zl) (.slice z1 z5 z9) (.slice z2 z6 za) (.slice z3 z7 zb) (.slice z4 z8 zc)):=setT_below RL.out hle _ _ _ _ _
    have GT:Hid (Got n T2 w1 (TV.mk zl (.slice z1 z5 z9) (.slice z2 z6 za) (.slice z3 z7 zb) (.slice z4 z8 zc)) L15 (setT c18 L15 (.bool zl) (.slice z1 z5 z9) (.slice z2 z6 za) (.slice z3 z7 zb) (.slice z4 z8 zc))):=⟨bz.set5 _ _ _ _ _,(TR.out.chg (chg_setT c18 L15 _ _ _ _ _) (fun g hg e=>by omega)).mono (fun g hg=>by omega),hle,BB⟩
    have KB:=KEEP.out _ BB
    clear BB TR bz RL OT
    refine wpAnyH_ready (rs:=[6]) (by kernel_rfl) (by simp) ?_
    refine AllReadyH.cons (o:=⟨_,_,_,_,_,_⟩) rfl (fun K hK=> ?_) AllReadyH.nil
    go_simp
    refine hK.out _ _ (KB) (fun hH2=> ?_)
    clear hK K hH
    have hH:=hH2
    clear hH2
    try simp only[Act.put,sA,sB,sC]
    refine wpAnyH_done (by kernel_rfl) ?_ _
    clear KB hH q8c q9f KEEP
    go_wp2_with fail
    go_meet
    case rel=>exact⟨L15,(TV.mk zl (.slice z1 z5 z9) (.slice z2 z6 za) (.slice z3 z7 zb) (.slice z4 z8 zc)),rfl,GT⟩
  case rest=>
  obtain⟨LW,zw,rfl,GW⟩:=hcut
  obtain⟨al,aP,aQ,aR,aS⟩:=zw
  obtain⟨a1,a2,a3,a4,a5,a6,a7,a8,a9,aa,ab,ac,hxa⟩:=GW.out.2.1.treeF.slices
  simp only[TV.mk.injEq,true_and] at hxa
  obtain⟨hxa1,hxa2,hxa3,hxa4⟩:=hxa
  subst hxa1 hxa2 hxa3 hxa4
  have bw:=GW.out.2.2.2
  replace SB:=hid (Below.and SB.out bw)
  replace B0:=hid (B0.out.below bw)
  replace BM:=hid (BM.out.below bw)
  have TW:Hid (TreeD n wc (fun g=>(w1.heap.size<=g/\¬g=LW)/\g<wc.heap.size) (TV.mk al (.slice a1 a5 a9) (.slice a2 a6 aa) (.slice a3 a7 ab) (.slice a4 a8 ac)) T2):=GW.out.2.1.lt
  have BW:Hid (LB 35 wc LW #[.bool al, .slice a1 a5 a9, .slice a2 a6 aa, .slice a3 a7 ab, .slice a4 a8 ac]):=GW.out.1
  have yw1:=bw.size
  have yw2:=GW.out.2.2.1
  have yw3:=BW.out.lt
  clear bw GW
  generalize wc=V4 at *
  have kB0:=B0.out.cells
  go_wp2_with fail
  refine(TO.out _ SB.out).mono ?_
  rintro e w5 ⟨yx,rfl,o5,b5⟩
  clear kB0
  replace SB:=hid (Below.and SB.out b5)
  replace B0:=hid (B0.out.below b5)
  replace BM:=hid (BM.out.below b5)
  replace TW:=hid (TW.out.below b5)
  replace BW:=hid (BW.out.below b5)
  have y5:V4.heap.size<=w5.heap.size:=b5.size
  clear b5
  obtain⟨xl,xP,xQ,xR,xS⟩:=yx
  obtain⟨x1,x2,x3,x4,x5,x6,x7,x8,x9,xa,xb,xc,hxx⟩:=o5.treeF.slices
  simp only[TV.mk.injEq,true_and] at hxx
  obtain⟨hxx1,hxx2,hxx3,hxx4⟩:=hxx
  subst hxx1 hxx2 hxx3 hxx4
  have TX:Hid (TreeD n (w5.alloc (.cells #[.bool xl, .slice x1 x5 x9, .slice x2 x6 xa, .slice x3 x7 xb, .slice x4 x8 xc] 35)) (fun g=>V4.heap.size<=g/\g<w5.heap.size) (TV.mk xl (.slice x1 x5 x9) (.slice x2 x6 xa) (.slice x3 x7 xb) (.slice x4 x8 xc)) T):=o5.lt.below (al1 _ _)
  have BX:Hid (LB 35 (w5.alloc (.cells #[.bool xl, .slice x1 x5 x9, .slice x2 x6 xa, .slice x3 x7 xb, .slice x4 x8 xc] 35)) w5.heap.size #[.bool xl, .slice x1 x5 x9, .slice x2 x6 xa, .slice x3 x7 xb, .slice x4 x8 xc]):=LB.new _ _ _
  replace SB:=hid (Below.and SB.out (al1 w5 (.cells #[.bool xl, .slice x1 x5 x9, .slice x2 x6 xa, .slice x3 x7 xb, .slice x4 x8 xc] 35)))
  replace B0:=hid (B0.out.below (al1 w5 (.cells #[.bool xl, .slice x1 x5 x9, .slice x2 x6 xa, .slice x3 x7 xb, .slice x4 x8 xc] 35)))
  replace BM:=hid (BM.out.below (al1 w5 (.cells #[.bool xl, .slice x1 x5 x9, .slice x2 x6 xa, .slice x3 x7 xb, .slice x4 x8 xc] 35)))
  replace TW:=hid (TW.out.below (al1 w5 (.cells #[.bool xl, .slice x1 x5 x9, .slice x2 x6 xa, .slice x3 x7 xb, .slice x4 x8 xc] 35)))
  replace BW:=hid (BW.out.below (al1 w5 (.cells #[.bool xl, .slice x1 x5 x9, .slice x2 x6 xa, .slice x3 x7 xb, .slice x4 x8 xc] 35)))
  clear o5
  go_wp2_with fail
  have s6:(w5.alloc (.cells #[.bool xl, .slice x1 x5 x9, .slice x2 x6 xa, .slice x3 x7 xb, .slice x4 x8 xc] 35)).heap.size=w5.heap.size+1:=by simp
  generalize (w5.alloc (.cells #[.bool xl, .slice x1 x5 x9, .slice x2 x6 xa, .slice x3 x7 xb, .slice x4 x8 xc] 35))=V6 at *
  go_cut [8] (fun s wx=>∃(L:Nat) (z:TV),s= .pointer (some ⟨L,0,none⟩)/\Hid (Got n T2 V6 z L wx))
  case first=>
   have KEEP:Hid (∀u,Below V6.heap.size V6 u->(fun u=>(∀j,u.cell? ⟨w5.heap.size,j,none⟩= #[.bool xl, .slice x1 x5 x9, .slice x2 x6 xa, .slice x3 x7 xb, .slice x4 x8 xc][j]?)/\∀j,u.cell? ⟨w.heap.size+1,j,none⟩= #[.int .i64 mo, .int .i64 mk, .int .i64 mv][j]?) u):=fun u hu=>⟨(BX.out.below hu).cells,(BM.out.below hu).cells⟩
   have RL:Hid (Below V6.heap.size V6 V6.drew):=(Below.refl _ _).drew
   refine wp_region_held_drew (S:=(fun u=>(∀j,u.cell? ⟨w5.heap.size,j,none⟩= #[.bool xl, .slice x1 x5 x9, .slice x2 x6 xa, .slice x3 x7 xb, .slice x4 x8 xc][j]?)/\∀j,u.cell? ⟨w.heap.size+1,j,none⟩= #[.int .i64 mo, .int .i64 mk, .int .i64 mv][j]?)) (by kernel_rfl) (KEEP.out _ RL.out) (fun hH=> ?_)
   generalize V6.drew=c19 at *
   refine tk 0 (oi:=⟨_,_,_,_,_,_⟩) (v:= ?_) rfl (by kernel_rfl) (fun _ _ _ h=>h) (Or.inl ⟨by rfl, ?_⟩) (by assumption) ?_
   rotate_left
   ·((intro w hSw;(try dsimp only at hSw);obtain⟨hSa,hSb⟩:=hSw;go_simp);(try with_reducible rfl))
   try simp only[Act.put,sA,sB,sC]
   refine tk 1 (oi:=⟨_,_,_,_,_,_⟩) (v:= ?_) rfl (by kernel_rfl) (fun _ _ _ h=>h) (Or.inl ⟨by rfl, ?_⟩) (by assumption) ?_
   rotate_left
   ·((intro w hSw;(try dsimp only at hSw);obtain⟨hSa,hSb⟩:=hSw;go_simp);(try with_reducible rfl))
   try simp only[Act.put,sA,sB,sC]
   refine wpAnyH_ready (rs:=[2,4]) (by kernel_rfl) (by simp) ?_
   refine AllReadyH.cons (o:=⟨_,_,_,_,_,_⟩) rfl (fun K hK=> ?_) (AllReadyH.cons (o:=⟨_,_,_,_,_,_⟩) rfl (fun K hK=> ?_) AllReadyH.nil)
   ·skip
    refine(if_pos (show Region.wanted _ _=true by kernel_rfl)).mpr ?_
    refine call_by 11 [.tmp 26] #[29] rfl run_toMsg [.agg #[.int .i64 mo, .int .i64 mk, .int .i64 mv]] rfl (TM.out _) ?_
    rintro e c20 ⟨rfl,b⟩
    replace RL:=hid (Below.and RL.out b)
    clear b
    refine⟨_,rfl, ?_⟩
    refine hK.out _ _ (KEEP.out _ RL.out) (fun hH2=> ?_)
    clear hK K hH
    have hH:=hH2
    clear hH2
    try simp only[Act.put,sA,sB,sC]
    refine wpAnyH_ready (rs:=[3,4]) (by kernel_rfl) (by simp) ?_
    refine AllReadyH.cons (o:=⟨_,_,_,_,_,_⟩) rfl (fun K hK=> ?_) (AllReadyH.cons (o:=⟨_,_,_,_,_,_⟩) rfl (fun K hK=> ?_) AllReadyH.nil)
    ·skip
     refine(if_pos (show Region.wanted _ _=true by kernel_rfl)).mpr ?_
     refine call_by 12 [.tmp 25, .tmp 27] #[35,38] rfl run_implInject [(TV.mk xl (.slice x1 x5 x9) (.slice x2 x6 xa) (.slice x3 x7 xb) (.slice x4 x8 xc)).val, .agg #[.int .i64 mo, .int .i64 mk, .int .i64 mv]] rfl (IP.out _ (TV.mk xl (.slice x1 x5 x9) (.slice x2 x6 xa) (.slice x3 x7 xb) (.slice x4 x8 xc)) _ (TX.out.below RL.out)) ?_
     have hcu:=RL.out.size
     rintro e c21 ⟨zz,rfl,tr,b⟩
     replace RL:=hid (Below.and RL.out b)
     have hsp2:=b.size
     obtain⟨zl,zP,zQ,zR,zS⟩:=zz
     obtain⟨z1,z2,z3,z4,z5,z6,z7,z8,z9,za,zb,zc,hxz⟩:=tr.treeF.slices
     simp only[TV.mk.injEq,true_and] at hxz
     obtain⟨hxz1,hxz2,hxz3,hxz4⟩:=hxz
     subst hxz1 hxz2 hxz3 hxz4
     have TR:=hid tr.lt
     clear tr b
     refine⟨_,rfl, ?_⟩
     refine hK.out _ _ (KEEP.out _ RL.out) (fun hH2=> ?_)
     clear hK K hH
     have hH:=hH2
     clear hH2
     try simp only[Act.put,sA,sB,sC]
     refine wpAnyH_ready (rs:=[4]) (by kernel_rfl) (by simp) ?_
     refine AllReadyH.cons (o:=⟨_,_,_,_,_,_⟩) rfl (fun K hK=> ?_) AllReadyH.nil
     go_simp
     have hsep:c21.heap.size<=c21.heap.size:=by first|exact Nat.le_refl _|omega
     have hbs:=RL.out.size
     replace RL:=hid (Below.and RL.out (al1 c21 (.cells #[.bool false, .slice none 0 0, .slice none 0 0, .slice none 0 0, .slice none 0 0] 35)))
     replace TR:=hid (TR.out.below (al1 c21 (.cells #[.bool false, .slice none 0 0, .slice none 0 0, .slice none 0 0, .slice none 0 0] 35)))
     have AL:Hid (LB 35 (c21.alloc (.cells #[.bool false, .slice none 0 0, .slice none 0 0, .slice none 0 0, .slice none 0 0] 35)) c21.heap.size #[.bool false, .slice none 0 0, .slice none 0 0, .slice none 0 0, .slice none 0 0]/\V6.heap.size<=c21.heap.size):=⟨LB.new _ _ _,hbs⟩
     refine hK.out _ _ (KEEP.out _ RL.out) (fun hH2=> ?_)
     clear hK K hH
     have hH:=hH2
     clear hH2
     try simp only[Act.put,sA,sB,sC]
     generalize (c21.alloc (.cells #[.bool false, .slice none 0 0, .slice none 0 0, .slice none 0 0, .slice none 0 0] 35))=c22 at *
     generalize c21.heap.size=L23 at *
     have bz:BoxT c22 L23 #[.bool false, .slice none 0 0, .slice none 0 0, .slice none 0 0, .slice none 0 0]:=AL.out.1
     have q8c:=bz.cells
     have q9f:=bz.free
     have hle:=AL.out.2
     have BB:Below V6.heap.size V6 (setT c22 L23 (.bool zl) (.slice z1 z5 z9) (.slice z2 z6 za) (.slice z3 z7 zb) (.slice z4 z8 zc)):=setT_below RL.out hle _ _ _ _ _
     have GT:Hid (Got n T2 V6 (TV.mk zl (.slice z1 z5 z9) (.slice z2 z6 za) (.slice z3 z7 zb) (.slice z4 z8 zc)) L23 (setT c22 L23 (.bool zl) (.slice z1 z5 z9) (.slice z2 z6 za) (.slice z3 z7 zb) (.slice z4 z8 zc))):=⟨bz.set5 _ _ _ _ _,(TR.out.chg (chg_setT c22 L23 _ _ _ _ _) (fun g hg e=>by omega)).mono (fun g hg=>by omega),hle,BB⟩
     have KB:=KEEP.out _ BB
     clear BB TR bz RL
     refine wpAnyH_ready (rs:=[5]) (by kernel_rfl) (by simp) ?_
     refine AllReadyH.cons (o:=⟨_,_,_,_,_,_⟩) rfl (fun K hK=> ?_) AllReadyH.nil
     go_simp
     refine hK.out _ _ (KB) (fun hH2=> ?_)
     clear hK K hH
     have hH:=hH2
     clear hH2
     try simp only[Act.put,sA,sB,sC]
     refine wpAnyH_done (by kernel_rfl) ?_ _
     clear KB hH q8c q9f KEEP
     go_wp2_with fail
     go_meet
     case rel=>exact⟨L23,(TV.mk zl (.slice z1 z5 z9) (.slice z2 z6 za) (.slice z3 z7 zb) (.slice z4 z8 zc)),rfl,GT⟩
    ·skip
     go_simp
     have hbs:=RL.out.size
     replace RL:=hid (Below.and RL.out (al1 c20 (.cells #[.bool false, .slice none 0 0, .slice none 0 0, .slice none 0 0, .slice none 0 0] 35)))
     have AL:Hid (LB 35 (c20.alloc (.cells #[.bool false, .slice none 0 0, .slice none 0 0, .slice none 0 0, .slice none 0 0] 35)) c20.heap.size #[.bool false, .slice none 0 0, .slice none 0 0, .slice none 0 0, .slice none 0 0]/\V6.heap.size<=c20.heap.size):=⟨LB.new _ _ _,hbs⟩
     refine hK.out _ _ (KEEP.out _ RL.out) (fun hH2=> ?_)
     clear hK K hH
     have hH:=hH2
     clear hH2
     try simp only[Act.put,sA,sB,sC]
     generalize (c20.alloc (.cells #[.bool false, .slice none 0 0, .slice none 0 0, .slice none 0 0, .slice none 0 0] 35))=c24 at *
     generalize c20.heap.size=L25 at *
     refine wpAnyH_ready (rs:=[3]) (by kernel_rfl) (by simp) ?_
     refine AllReadyH.cons (o:=⟨_,_,_,_,_,_⟩) rfl (fun K hK=> ?_) AllReadyH.nil
     refine(if_pos (show Region.wanted _ _=true by kernel_rfl)).mpr ?_
     refine call_by 12 [.tmp 25, .tmp 27] #[35,38] rfl run_implInject [(TV.mk xl (.slice x1 x5 x9) (.slice x2 x6 xa) (.slice x3 x7 xb) (.slice x4 x8 xc)).val, .agg #[.int .i64 mo, .int .i64 mk, .int .i64 mv]] rfl (IP.out _ (TV.mk xl (.slice x1 x5 x9) (.slice x2 x6 xa) (.slice x3 x7 xb) (.slice x4 x8 xc)) _ (TX.out.below RL.out)) ?_
     have hsep:=AL.out.1.lt
     have hcu:=RL.out.size
     rintro e c26 ⟨zz,rfl,tr,b⟩
     replace RL:=hid (Below.and RL.out b)
     replace AL:=hid (And.intro (AL.out.1.below b) AL.out.2)
     obtain⟨zl,zP,zQ,zR,zS⟩:=zz
     obtain⟨z1,z2,z3,z4,z5,z6,z7,z8,z9,za,zb,zc,hxz⟩:=tr.treeF.slices
     simp only[TV.mk.injEq,true_and] at hxz
     obtain⟨hxz1,hxz2,hxz3,hxz4⟩:=hxz
     subst hxz1 hxz2 hxz3 hxz4
     have TR:=hid tr.lt
     clear tr b
     refine⟨_,rfl, ?_⟩
     refine hK.out _ _ (KEEP.out _ RL.out) (fun hH2=> ?_)
     clear hK K hH
     have hH:=hH2
     clear hH2
     try simp only[Act.put,sA,sB,sC]
     have bz:BoxT c26 L25 #[.bool false, .slice none 0 0, .slice none 0 0, .slice none 0 0, .slice none 0 0]:=AL.out.1
     have q8c:=bz.cells
     have q9f:=bz.free
     have hle:=AL.out.2
     have BB:Below V6.heap.size V6 (setT c26 L25 (.bool zl) (.slice z1 z5 z9) (.slice z2 z6 za) (.slice z3 z7 zb) (.slice z4 z8 zc)):=setT_below RL.out hle _ _ _ _ _
     have GT:Hid (Got n T2 V6 (TV.mk zl (.slice z1 z5 z9) (.slice z2 z6 za) (.slice z3 z7 zb) (.slice z4 z8 zc)) L25 (setT c26 L25 (.bool zl) (.slice z1 z5 z9) (.slice z2 z6 za) (.slice z3 z7 zb) (.slice z4 z8 zc))):=⟨bz.set5 _ _ _ _ _,(TR.out.chg (chg_setT c26 L25 _ _ _ _ _) (fun g hg e=>by omega)).mono (fun g hg=>by omega),hle,BB⟩
     have KB:=KEEP.out _ BB
     clear BB TR bz RL
     refine wpAnyH_ready (rs:=[5]) (by kernel_rfl) (by simp) ?_
     refine AllReadyH.cons (o:=⟨_,_,_,_,_,_⟩) rfl (fun K hK=> ?_) AllReadyH.nil
     go_simp
     refine hK.out _ _ (KB) (fun hH2=> ?_)
     clear hK K hH
     have hH:=hH2
     clear hH2
     try simp only[Act.put,sA,sB,sC]
     refine wpAnyH_done (by kernel_rfl) ?_ _
     clear KB hH q8c q9f KEEP
     go_wp2_with fail
     go_meet
     case rel=>exact⟨L25,(TV.mk zl (.slice z1 z5 z9) (.slice z2 z6 za) (.slice z3 z7 zb) (.slice z4 z8 zc)),rfl,GT⟩
   ·skip
    go_simp
    have hbs:=RL.out.size
    replace RL:=hid (Below.and RL.out (al1 c19 (.cells #[.bool false, .slice none 0 0, .slice none 0 0, .slice none 0 0, .slice none 0 0] 35)))
    have AL:Hid (LB 35 (c19.alloc (.cells #[.bool false, .slice none 0 0, .slice none 0 0, .slice none 0 0, .slice none 0 0] 35)) c19.heap.size #[.bool false, .slice none 0 0, .slice none 0 0, .slice none 0 0, .slice none 0 0]/\V6.heap.size<=c19.heap.size):=⟨LB.new _ _ _,hbs⟩
    refine hK.out _ _ (KEEP.out _ RL.out) (fun hH2=> ?_)
    clear hK K hH
    have hH:=hH2
    clear hH2
    try simp only[Act.put,sA,sB,sC]
    generalize (c19.alloc (.cells #[.bool false, .slice none 0 0, .slice none 0 0, .slice none 0 0, .slice none 0 0] 35))=c27 at *
    generalize c19.heap.size=L28 at *
    refine wpAnyH_ready (rs:=[2]) (by kernel_rfl) (by simp) ?_
    refine AllReadyH.cons (o:=⟨_,_,_,_,_,_⟩) rfl (fun K hK=> ?_) AllReadyH.nil
    refine(if_pos (show Region.wanted _ _=true by kernel_rfl)).mpr ?_
    refine call_by 11 [.tmp 26] #[29] rfl run_toMsg [.agg #[.int .i64 mo, .int .i64 mk, .int .i64 mv]] rfl (TM.out _) ?_
    rintro e c29 ⟨rfl,b⟩
    replace RL:=hid (Below.and RL.out b)
    replace AL:=hid (And.intro (AL.out.1.below b) AL.out.2)
    clear b
    refine⟨_,rfl, ?_⟩
    refine hK.out _ _ (KEEP.out _ RL.out) (fun hH2=> ?_)
    clear hK K hH
    have hH:=hH2
    clear hH2
    try simp only[Act.put,sA,sB,sC]
    refine wpAnyH_ready (rs:=[3]) (by kernel_rfl) (by simp) ?_
    refine AllReadyH.cons (o:=⟨_,_,_,_,_,_⟩) rfl (fun K hK=> ?_) AllReadyH.nil
    refine(if_pos (show Region.wanted _ _=true by kernel_rfl)).mpr ?_
    refine call_by 12 [.tmp 25, .tmp 27] #[35,38] rfl run_implInject [(TV.mk xl (.slice x1 x5 x9) (.slice x2 x6 xa) (.slice x3 x7 xb) (.slice x4 x8 xc)).val, .agg #[.int .i64 mo, .int .i64 mk, .int .i64 mv]] rfl (IP.out _ (TV.mk xl (.slice x1 x5 x9) (.slice x2 x6 xa) (.slice x3 x7 xb) (.slice x4 x8 xc)) _ (TX.out.below RL.out)) ?_
    have hsep:=AL.out.1.lt
    have hcu:=RL.out.size
    rintro e c30 ⟨zz,rfl,tr,b⟩
    replace RL:=hid (Below.and RL.out b)
    replace AL:=hid (And.intro (AL.out.1.below b) AL.out.2)
    obtain⟨zl,zP,zQ,zR,zS⟩:=zz
    obtain⟨z1,z2,z3,z4,z5,z6,z7,z8,z9,za,zb,zc,hxz⟩:=tr.treeF.slices
    simp only[TV.mk.injEq,true_and] at hxz
    obtain⟨hxz1,hxz2,hxz3,hxz4⟩:=hxz
    subst hxz1 hxz2 hxz3 hxz4
    have TR:=hid tr.lt
    clear tr b
    refine⟨_,rfl, ?_⟩
    refine hK.out _ _ (KEEP.out _ RL.out) (fun hH2=> ?_)
    clear hK K hH
    have hH:=hH2
    clear hH2
    try simp only[Act.put,sA,sB,sC]
    have bz:BoxT c30 L28 #[.bool false, .slice none 0 0, .slice none 0 0, .slice none 0 0, .slice none 0 0]:=AL.out.1
    have q8c:=bz.cells
    have q9f:=bz.free
    have hle:=AL.out.2
    have BB:Below V6.heap.size V6 (setT c30 L28 (.bool zl) (.slice z1 z5 z9) (.slice z2 z6 za) (.slice z3 z7 zb) (.slice z4 z8 zc)):=setT_below RL.out hle _ _ _ _ _
    have GT:Hid (Got n T2 V6 (TV.mk zl (.slice z1 z5 z9) (.slice z2 z6 za) (.slice z3 z7 zb) (.slice z4 z8 zc)) L28 (setT c30 L28 (.bool zl) (.slice z1 z5 z9) (.slice z2 z6 za) (.slice z3 z7 zb) (.slice z4 z8 zc))):=⟨bz.set5 _ _ _ _ _,(TR.out.chg (chg_setT c30 L28 _ _ _ _ _) (fun g hg e=>by omega)).mono (fun g hg=>by omega),hle,BB⟩
    have KB:=KEEP.out _ BB
    clear BB TR bz RL
    refine wpAnyH_ready (rs:=[5]) (by kernel_rfl) (by simp) ?_
    refine AllReadyH.cons (o:=⟨_,_,_,_,_,_⟩) rfl (fun K hK=> ?_) AllReadyH.nil
    go_simp
    refine hK.out _ _ (KB) (fun hH2=> ?_)
    clear hK K hH
    have hH:=hH2
    clear hH2
    try simp only[Act.put,sA,sB,sC]
    refine wpAnyH_done (by kernel_rfl) ?_ _
    clear KB hH q8c q9f KEEP
    go_wp2_with fail
    go_meet
    case rel=>exact⟨L28,(TV.mk zl (.slice z1 z5 z9) (.slice z2 z6 za) (.slice z3 z7 zb) (.slice z4 z8 zc)),rfl,GT⟩
  case rest=>
  obtain⟨LG,zg,rfl,GG⟩:=hcut
  obtain⟨gl,gP,gQ,gR,gS⟩:=zg
  obtain⟨g1,g2,g3,g4,g5,g6,g7,g8,g9,ga,gb,gc,hxg⟩:=GG.out.2.1.treeF.slices
  simp only[TV.mk.injEq,true_and] at hxg
  obtain⟨hxg1,hxg2,hxg3,hxg4⟩:=hxg
  subst hxg1 hxg2 hxg3 hxg4
  have bw:=GG.out.2.2.2
  replace SB:=hid (Below.and SB.out bw)
  replace B0:=hid (B0.out.below bw)
  replace BM:=hid (BM.out.below bw)
  replace TW:=hid (TW.out.below bw)
  replace BW:=hid (BW.out.below bw)
  replace TX:=hid (TX.out.below bw)
  replace BX:=hid (BX.out.below bw)
  have TG:Hid (TreeD n wc (fun g=>(V6.heap.size<=g/\¬g=LG)/\g<wc.heap.size) (TV.mk gl (.slice g1 g5 g9) (.slice g2 g6 ga) (.slice g3 g7 gb) (.slice g4 g8 gc)) T2):=GG.out.2.1.lt
  have BG:Hid (LB 35 wc LG #[.bool gl, .slice g1 g5 g9, .slice g2 g6 ga, .slice g3 g7 gb, .slice g4 g8 gc]):=GG.out.1
  have yg1:=bw.size
  have yg2:=GG.out.2.2.1
  have yg3:=BG.out.lt
  clear bw GG
  generalize wc=V8 at *
  have SV:=hid (Nat.le_refl V8.heap.size)
  have kBG:=BG.out.cells
  have kBW:=BW.out.cells
  go_wp2_with fail
  refine Calls.mono (eqTree_any n (TV.mk gl (.slice g1 g5 g9) (.slice g2 g6 ga) (.slice g3 g7 gb) (.slice g4 g8 gc)) (TV.mk al (.slice a1 a5 a9) (.slice a2 a6 aa) (.slice a3 a7 ab) (.slice a4 a8 ac)) T2 _ TG.out.treeF.treeAt TW.out.treeF.treeAt) ?_
  rintro e w9 ⟨rfl,bq⟩
  clear kBG kBW
  replace SB:=hid (Below.and SB.out bq)
  replace B0:=hid (B0.out.below bq)
  replace BM:=hid (BM.out.below bq)
  replace TW:=hid (TW.out.below bq)
  replace BW:=hid (BW.out.below bq)
  replace TX:=hid (TX.out.below bq)
  replace BX:=hid (BX.out.below bq)
  replace TG:=hid (TG.out.below bq)
  replace BG:=hid (BG.out.below bq)
  replace SV:=hid (Nat.le_trans SV.out (bq).size)
  clear bq
  go_wp2_with fail
  have KEEP:Hid (∀u,Below w9.heap.size w9 u->(fun u=>(∀j,u.cell? ⟨w.heap.size,j,none⟩= #[.bool dl, .slice d1 d5 d9, .slice d2 d6 da, .slice d3 d7 db, .slice d4 d8 dc][j]?)/\∀j,u.cell? ⟨w5.heap.size,j,none⟩= #[.bool xl, .slice x1 x5 x9, .slice x2 x6 xa, .slice x3 x7 xb, .slice x4 x8 xc][j]?) u):=fun u hu=>⟨(B0.out.below hu).cells,(BX.out.below hu).cells⟩
  have RL:Hid (Below w9.heap.size w9 w9.drew):=(Below.refl _ _).drew
  refine wp_region_held_drew (S:=(fun u=>(∀j,u.cell? ⟨w.heap.size,j,none⟩= #[.bool dl, .slice d1 d5 d9, .slice d2 d6 da, .slice d3 d7 db, .slice d4 d8 dc][j]?)/\∀j,u.cell? ⟨w5.heap.size,j,none⟩= #[.bool xl, .slice x1 x5 x9, .slice x2 x6 xa, .slice x3 x7 xb, .slice x4 x8 xc][j]?)) (by kernel_rfl) (KEEP.out _ RL.out) (fun hH=> ?_)
  refine tk 0 (oi:=⟨_,_,_,_,_,_⟩) (v:= ?_) rfl (by kernel_rfl) (fun _ _ _ h=>h) (Or.inl ⟨by rfl, ?_⟩) (by assumption) ?_
  rotate_left
  ·((intro w hSw;(try dsimp only at hSw);obtain⟨hSa,hSb⟩:=hSw;go_simp);(try with_reducible rfl))
  try simp only[Act.put,sA,sB,sC]
  refine tk 1 (oi:=⟨_,_,_,_,_,_⟩) (v:= ?_) rfl (by kernel_rfl) (fun _ _ _ h=>h) (Or.inl ⟨by rfl, ?_⟩) (by assumption) ?_
  rotate_left
  ·((intro w hSw;(try dsimp only at hSw);obtain⟨hSa,hSb⟩:=hSw;go_simp);(try with_reducible rfl))
  try simp only[Act.put,sA,sB,sC]
  refine wpAnyH_ready (rs:=[2]) (by kernel_rfl) (by simp) ?_
  refine AllReadyH.cons (o:=⟨_,_,_,_,_,_⟩) rfl (fun K hK=> ?_) AllReadyH.nil
  refine(if_pos (show Region.wanted _ _=true by kernel_rfl)).mpr ?_
  refine call_by 10 [.tmp 34] #[27] rfl run_toTree [.agg #[.bool dl, .slice d1 d5 d9, .slice d2 d6 da, .slice d3 d7 db, .slice d4 d8 dc]] rfl (TO.out _ (Below.and SB.out RL.out)) ?_
  rintro e z1 ⟨xe,rfl,oe,be⟩
  replace RL:Hid (Below w9.heap.size w9 z1):=Below.and RL.out be
  have OE:Hid (TreeD n z1 _ xe T):=oe
  clear be oe
  refine⟨_,rfl, ?_⟩
  refine hK.out _ _ (KEEP.out _ RL.out) (fun hH2=> ?_)
  clear hK K hH
  have hH:=hH2
  clear hH2
  try simp only[Act.put,sA,sB,sC]
  refine wpAnyH_ready (rs:=[3]) (by kernel_rfl) (by simp) ?_
  refine AllReadyH.cons (o:=⟨_,_,_,_,_,_⟩) rfl (fun K hK=> ?_) AllReadyH.nil
  refine(if_pos (show Region.wanted _ _=true by kernel_rfl)).mpr ?_
  refine call_by 13 [.tmp 33, .tmp 35] #[35,35] rfl run_eqTree [.agg #[.bool xl, .slice x1 x5 x9, .slice x2 x6 xa, .slice x3 x7 xb, .slice x4 x8 xc],xe.val] rfl (eqTree_any n (TV.mk xl (.slice x1 x5 x9) (.slice x2 x6 xa) (.slice x3 x7 xb) (.slice x4 x8 xc)) xe T _ (TX.out.below RL.out).treeF.treeAt OE.out.treeF.treeAt) ?_
  rintro e z2 ⟨rfl,be⟩
  replace RL:Hid (Below w9.heap.size w9 z2):=Below.and RL.out be
  clear be
  refine⟨_,rfl, ?_⟩
  refine hK.out _ _ (KEEP.out _ RL.out) (fun hH2=> ?_)
  clear hK K hH
  have hH:=hH2
  clear hH2
  try simp only[Act.put,sA,sB,sC]
  refine tk 4 (oi:=⟨_,_,_,_,_,_⟩) (v:= ?_) rfl (by kernel_rfl) (fun _ _ _ h=>h) (Or.inl ⟨by rfl, ?_⟩) (by assumption) ?_
  rotate_left
  ·((intro w hSw;(try dsimp only at hSw);obtain⟨hSa,hSb⟩:=hSw;go_simp);(try with_reducible rfl))
  try simp only[Act.put,sA,sB,sC]
  refine wpAnyH_done (by kernel_rfl) ?_ _
  clear hH OE KEEP
  replace SB:=hid (Below.and SB.out RL.out)
  replace B0:=hid (B0.out.below RL.out)
  replace BM:=hid (BM.out.below RL.out)
  replace TW:=hid (TW.out.below RL.out)
  replace BW:=hid (BW.out.below RL.out)
  replace TX:=hid (TX.out.below RL.out)
  replace BX:=hid (BX.out.below RL.out)
  replace TG:=hid (TG.out.below RL.out)
  replace BG:=hid (BG.out.below RL.out)
  replace SV:=hid (Nat.le_trans SV.out (RL.out).size)
  clear RL
  generalize z2=w10 at *
  have kBX:=BX.out.cells
  go_wp2_with fail
  refine Calls.mono (markTree_d n (TV.mk xl (.slice x1 x5 x9) (.slice x2 x6 xa) (.slice x3 x7 xb) (.slice x4 x8 xc)) T (fun g=>V4.heap.size<=g/\g<w5.heap.size) 1 w10 TX.out (fun g hg=>by have:=BX.out.lt;omega) (by omega) (by have:=HMX.out;omega)) ?_
  rintro e w11 ⟨rfl,om,cm⟩
  clear kBX
  rw[HMX.out]
  replace SB:=hid (SB.out.trans (cm.below (B:=w.heap.size) (fun g _ hg=>by omega) SB.out.size))
  replace B0:=hid (B0.out.chg cm (by omega))
  replace BM:=hid (BM.out.chg cm (by omega))
  replace TW:=hid (TW.out.chg cm (fun g hg h=>by omega))
  replace BW:=hid (BW.out.chg cm (by omega))
  replace BX:=hid (BX.out.chg cm (by omega))
  replace TG:=hid (TG.out.chg cm (fun g hg h=>by omega))
  replace BG:=hid (BG.out.chg cm (by omega))
  replace SV:=hid (Nat.le_trans SV.out cm.size)
  clear om cm TX
  have kBG:=BG.out.cells
  have kBW:=BW.out.cells
  go_wp2_with fail
  refine Calls.mono (eqTree_any n (TV.mk gl (.slice g1 g5 g9) (.slice g2 g6 ga) (.slice g3 g7 gb) (.slice g4 g8 gc)) (TV.mk al (.slice a1 a5 a9) (.slice a2 a6 aa) (.slice a3 a7 ab) (.slice a4 a8 ac)) T2 _ TG.out.treeF.treeAt TW.out.treeF.treeAt) ?_
  rintro e w12 ⟨rfl,bq⟩
  clear kBG kBW
  replace SB:=hid (Below.and SB.out bq)
  replace B0:=hid (B0.out.below bq)
  replace BM:=hid (BM.out.below bq)
  replace TW:=hid (TW.out.below bq)
  replace BW:=hid (BW.out.below bq)
  replace BX:=hid (BX.out.below bq)
  replace TG:=hid (TG.out.below bq)
  replace BG:=hid (BG.out.below bq)
  replace SV:=hid (Nat.le_trans SV.out (bq).size)
  clear bq
  have kBG:=BG.out.cells
  go_wp2_with fail
  refine Calls.mono (markTree_d n (TV.mk gl (.slice g1 g5 g9) (.slice g2 g6 ga) (.slice g3 g7 gb) (.slice g4 g8 gc)) T2 (fun g=>(V6.heap.size<=g/\¬g=LG)/\g<V8.heap.size) 1 w12 TG.out (fun g hg=>by have:=BG.out.lt;have:=SV.out;omega) (by omega) (by have:=HMG.out;omega)) ?_
  rintro e w13 ⟨rfl,tm13,cm⟩
  clear kBG
  rw[HMG.out]
  replace SB:=hid (SB.out.trans (cm.below (B:=w.heap.size) (fun g _ hg=>by omega) SB.out.size))
  replace B0:=hid (B0.out.chg cm (by omega))
  replace BM:=hid (BM.out.chg cm (by omega))
  replace TW:=hid (TW.out.chg cm (fun g hg h=>by omega))
  replace BW:=hid (BW.out.chg cm (by omega))
  replace BX:=hid (BX.out.chg cm (by omega))
  replace BG:=hid (BG.out.chg cm (by omega))
  replace SV:=hid (Nat.le_trans SV.out cm.size)
  replace TG:Hid (TreeD n w13 (fun g=>(V6.heap.size<=g/\¬g=LG)/\g<V8.heap.size) (TV.mk gl (.slice g1 g5 g9) (.slice g2 g6 ga) (.slice g3 g7 gb) (.slice g4 g8 gc)) (markTr n 1 T2)):=tm13
  clear tm13 cm
  have kBG:=BG.out.cells
  go_wp2_with fail
  refine Calls.mono (heldTree_m n (TV.mk gl (.slice g1 g5 g9) (.slice g2 g6 ga) (.slice g3 g7 gb) (.slice g4 g8 gc)) T2 1 w13 TG.out.treeF.treeAt (by omega) (by have:=HMG.out;omega)) ?_
  rintro e w14 ⟨rfl,bq⟩
  rw[HMG.out]
  clear kBG
  replace SB:=hid (Below.and SB.out bq)
  replace B0:=hid (B0.out.below bq)
  replace BM:=hid (BM.out.below bq)
  replace TW:=hid (TW.out.below bq)
  replace BW:=hid (BW.out.below bq)
  replace BX:=hid (BX.out.below bq)
  replace BG:=hid (BG.out.below bq)
  replace SV:=hid (Nat.le_trans SV.out (bq).size)
  replace TG:=hid (TG.out.below bq)
  clear bq
  go_wp2_with fail
  go_cut [12] (fun s wx=>∃(L:Nat) (z:TV),s= .pointer (some ⟨L,0,none⟩)/\Hid (Got n T2 w14 z L wx))
  case first=>
   have KEEP:Hid (∀u,Below w14.heap.size w14 u->(fun u=>(∀j,u.cell? ⟨w.heap.size,j,none⟩= #[.bool dl, .slice d1 d5 d9, .slice d2 d6 da, .slice d3 d7 db, .slice d4 d8 dc][j]?)/\∀j,u.cell? ⟨w.heap.size+1,j,none⟩= #[.int .i64 mo, .int .i64 mk, .int .i64 mv][j]?) u):=fun u hu=>⟨(B0.out.below hu).cells,(BM.out.below hu).cells⟩
   have RL:Hid (Below w14.heap.size w14 w14.drew):=(Below.refl _ _).drew
   refine wp_region_held_drew (S:=(fun u=>(∀j,u.cell? ⟨w.heap.size,j,none⟩= #[.bool dl, .slice d1 d5 d9, .slice d2 d6 da, .slice d3 d7 db, .slice d4 d8 dc][j]?)/\∀j,u.cell? ⟨w.heap.size+1,j,none⟩= #[.int .i64 mo, .int .i64 mk, .int .i64 mv][j]?)) (by kernel_rfl) (KEEP.out _ RL.out) (fun hH=> ?_)
   generalize w14.drew=c31 at *
   refine tk 0 (oi:=⟨_,_,_,_,_,_⟩) (v:= ?_) rfl (by kernel_rfl) (fun _ _ _ h=>h) (Or.inl ⟨by rfl, ?_⟩) (by assumption) ?_
   rotate_left
   ·((intro w hSw;(try dsimp only at hSw);obtain⟨hSa,hSb⟩:=hSw;go_simp);(try with_reducible rfl))
   try simp only[Act.put,sA,sB,sC]
   refine tk 2 (oi:=⟨_,_,_,_,_,_⟩) (v:= ?_) rfl (by kernel_rfl) (fun _ _ _ h=>h) (Or.inl ⟨by rfl, ?_⟩) (by assumption) ?_
   rotate_left
   ·((intro w hSw;(try dsimp only at hSw);obtain⟨hSa,hSb⟩:=hSw;go_simp);(try with_reducible rfl))
   try simp only[Act.put,sA,sB,sC]
   refine wpAnyH_ready (rs:=[1,5]) (by kernel_rfl) (by simp) ?_
   refine AllReadyH.cons (o:=⟨_,_,_,_,_,_⟩) rfl (fun K hK=> ?_) (AllReadyH.cons (o:=⟨_,_,_,_,_,_⟩) rfl (fun K hK=> ?_) AllReadyH.nil)
   ·skip
    refine(if_pos (show Region.wanted _ _=true by kernel_rfl)).mpr ?_
    refine call_by 10 [.tmp 60] #[27] rfl run_toTree [.agg #[.bool dl, .slice d1 d5 d9, .slice d2 d6 da, .slice d3 d7 db, .slice d4 d8 dc]] rfl (TO.out _ (Below.and SB.out RL.out)) ?_
    rintro e c32 ⟨yt,rfl,ot,b⟩
    replace RL:=hid (Below.and RL.out b)
    obtain⟨sl,sP,sQ,sR,sS⟩:=yt
    obtain⟨s1,s2,s3,s4,s5,s6,s7,s8,s9,sa,sb,sc,hxs⟩:=ot.treeF.slices
    simp only[TV.mk.injEq,true_and] at hxs
    obtain⟨hxs1,hxs2,hxs3,hxs4⟩:=hxs
    subst hxs1 hxs2 hxs3 hxs4
    have OT:=hid ot
    clear ot b
    refine⟨_,rfl, ?_⟩
    refine hK.out _ _ (KEEP.out _ RL.out) (fun hH2=> ?_)
    clear hK K hH
    have hH:=hH2
    clear hH2
    try simp only[Act.put,sA,sB,sC]
    refine wpAnyH_ready (rs:=[3,5]) (by kernel_rfl) (by simp) ?_
    refine AllReadyH.cons (o:=⟨_,_,_,_,_,_⟩) rfl (fun K hK=> ?_) (AllReadyH.cons (o:=⟨_,_,_,_,_,_⟩) rfl (fun K hK=> ?_) AllReadyH.nil)
    ·skip
     refine(if_pos (show Region.wanted _ _=true by kernel_rfl)).mpr ?_
     refine call_by 11 [.tmp 62] #[29] rfl run_toMsg [.agg #[.int .i64 mo, .int .i64 mk, .int .i64 mv]] rfl (TM.out _) ?_
     rintro e c33 ⟨rfl,b⟩
     replace RL:=hid (Below.and RL.out b)
     replace OT:=hid (OT.out.below b)
     clear b
     refine⟨_,rfl, ?_⟩
     refine hK.out _ _ (KEEP.out _ RL.out) (fun hH2=> ?_)
     clear hK K hH
     have hH:=hH2
     clear hH2
     try simp only[Act.put,sA,sB,sC]
     refine wpAnyH_ready (rs:=[4,5]) (by kernel_rfl) (by simp) ?_
     refine AllReadyH.cons (o:=⟨_,_,_,_,_,_⟩) rfl (fun K hK=> ?_) (AllReadyH.cons (o:=⟨_,_,_,_,_,_⟩) rfl (fun K hK=> ?_) AllReadyH.nil)
     ·skip
      refine(if_pos (show Region.wanted _ _=true by kernel_rfl)).mpr ?_
      refine call_by 12 [.tmp 61, .tmp 63] #[35,38] rfl run_implInject [(TV.mk sl (.slice s1 s5 s9) (.slice s2 s6 sa) (.slice s3 s7 sb) (.slice s4 s8 sc)).val, .agg #[.int .i64 mo, .int .i64 mk, .int .i64 mv]] rfl (IP.out _ (TV.mk sl (.slice s1 s5 s9) (.slice s2 s6 sa) (.slice s3 s7 sb) (.slice s4 s8 sc)) _ OT.out) ?_
      have hcu:=RL.out.size
      rintro e c34 ⟨zz,rfl,tr,b⟩
      replace RL:=hid (Below.and RL.out b)
      replace OT:=hid (OT.out.below b)
      have hsp2:=b.size
      obtain⟨zl,zP,zQ,zR,zS⟩:=zz
      obtain⟨z1,z2,z3,z4,z5,z6,z7,z8,z9,za,zb,zc,hxz⟩:=tr.treeF.slices
      simp only[TV.mk.injEq,true_and] at hxz
      obtain⟨hxz1,hxz2,hxz3,hxz4⟩:=hxz
      subst hxz1 hxz2 hxz3 hxz4
      have TR:=hid tr.lt
      clear tr b
      refine⟨_,rfl, ?_⟩
      refine hK.out _ _ (KEEP.out _ RL.out) (fun hH2=> ?_)
      clear hK K hH
      have hH:=hH2
      clear hH2
      try simp only[Act.put,sA,sB,sC]
      refine wpAnyH_ready (rs:=[5]) (by kernel_rfl) (by simp) ?_
      refine AllReadyH.cons (o:=⟨_,_,_,_,_,_⟩) rfl (fun K hK=> ?_) AllReadyH.nil
      go_simp
      have hsep:c34.heap.size<=c34.heap.size:=by first|exact Nat.le_refl _|omega
      have hbs:=RL.out.size
      replace RL:=hid (Below.and RL.out (al1 c34 (.cells #[.bool false, .slice none 0 0, .slice none 0 0, .slice none 0 0, .slice none 0 0] 35)))
      replace OT:=hid (OT.out.below (al1 c34 (.cells #[.bool false, .slice none 0 0, .slice none 0 0, .slice none 0 0, .slice none 0 0] 35)))
      replace TR:=hid (TR.out.below (al1 c34 (.cells #[.bool false, .slice none 0 0, .slice none 0 0, .slice none 0 0, .slice none 0 0] 35)))
      have AL:Hid (LB 35 (c34.alloc (.cells #[.bool false, .slice none 0 0, .slice none 0 0, .slice none 0 0, .slice none 0 0] 35)) c34.heap.size #[.bool false, .slice none 0 0, .slice none 0 0, .slice none 0 0, .slice none 0 0]/\w14.heap.size<=c34.heap.size):=⟨LB.new _ _ _,hbs⟩
      refine hK.out _ _ (KEEP.out _ RL.out) (fun hH2=> ?_)
      clear hK K hH
      have hH:=hH2
      clear hH2
      try simp only[Act.put,sA,sB,sC]
      generalize (c34.alloc (.cells #[.bool false, .slice none 0 0, .slice none 0 0, .slice none 0 0, .slice none 0 0] 35))=c35 at *
      generalize c34.heap.size=L36 at *
      have bz:BoxT c35 L36 #[.bool false, .slice none 0 0, .slice none 0 0, .slice none 0 0, .slice none 0 0]:=AL.out.1
      have q8c:=bz.cells
      have q9f:=bz.free
      have hle:=AL.out.2
      have BB:Below w14.heap.size w14 (setT c35 L36 (.bool zl) (.slice z1 z5 z9) (.slice z2 z6 za) (.slice z3 z7 zb) (.slice z4 z8 zc)):=setT_below RL.out hle _ _ _ _ _
      have GT:Hid (Got n T2 w14 (TV.mk zl (.slice z1 z5 z9) (.slice z2 z6 za) (.slice z3 z7 zb) (.slice z4 z8 zc)) L36 (setT c35 L36 (.bool zl) (.slice z1 z5 z9) (.slice z2 z6 za) (.slice z3 z7 zb) (.slice z4 z8 zc))):=⟨bz.set5 _ _ _ _ _,(TR.out.chg (chg_setT c35 L36 _ _ _ _ _) (fun g hg e=>by omega)).mono (fun g hg=>by omega),hle,BB⟩
      have KB:=KEEP.out _ BB
      clear BB TR bz RL OT
      refine wpAnyH_ready (rs:=[6]) (by kernel_rfl) (by simp) ?_
      refine AllReadyH.cons (o:=⟨_,_,_,_,_,_⟩) rfl (fun K hK=> ?_) AllReadyH.nil
      go_simp
      refine hK.out _ _ (KB) (fun hH2=> ?_)
      clear hK K hH
      have hH:=hH2
      clear hH2
      try simp only[Act.put,sA,sB,sC]
      refine wpAnyH_done (by kernel_rfl) ?_ _
      clear KB hH q8c q9f KEEP
      go_wp2_with fail
      go_meet
      case rel=>exact⟨L36,(TV.mk zl (.slice z1 z5 z9) (.slice z2 z6 za) (.slice z3 z7 zb) (.slice z4 z8 zc)),rfl,GT⟩
     ·skip
      go_simp
      have hbs:=RL.out.size
      replace RL:=hid (Below.and RL.out (al1 c33 (.cells #[.bool false, .slice none 0 0, .slice none 0 0, .slice none 0 0, .slice none 0 0] 35)))
      replace OT:=hid (OT.out.below (al1 c33 (.cells #[.bool false, .slice none 0 0, .slice none 0 0, .slice none 0 0, .slice none 0 0] 35)))
      have AL:Hid (LB 35 (c33.alloc (.cells #[.bool false, .slice none 0 0, .slice none 0 0, .slice none 0 0, .slice none 0 0] 35)) c33.heap.size #[.bool false, .slice none 0 0, .slice none 0 0, .slice none 0 0, .slice none 0 0]/\w14.heap.size<=c33.heap.size):=⟨LB.new _ _ _,hbs⟩
      refine hK.out _ _ (KEEP.out _ RL.out) (fun hH2=> ?_)
      clear hK K hH
      have hH:=hH2
      clear hH2
      try simp only[Act.put,sA,sB,sC]
      generalize (c33.alloc (.cells #[.bool false, .slice none 0 0, .slice none 0 0, .slice none 0 0, .slice none 0 0] 35))=c37 at *
      generalize c33.heap.size=L38 at *
      refine wpAnyH_ready (rs:=[4]) (by kernel_rfl) (by simp) ?_
      refine AllReadyH.cons (o:=⟨_,_,_,_,_,_⟩) rfl (fun K hK=> ?_) AllReadyH.nil
      refine(if_pos (show Region.wanted _ _=true by kernel_rfl)).mpr ?_
      refine call_by 12 [.tmp 61, .tmp 63] #[35,38] rfl run_implInject [(TV.mk sl (.slice s1 s5 s9) (.slice s2 s6 sa) (.slice s3 s7 sb) (.slice s4 s8 sc)).val, .agg #[.int .i64 mo, .int .i64 mk, .int .i64 mv]] rfl (IP.out _ (TV.mk sl (.slice s1 s5 s9) (.slice s2 s6 sa) (.slice s3 s7 sb) (.slice s4 s8 sc)) _ OT.out) ?_
      have hsep:=AL.out.1.lt
      have hcu:=RL.out.size
      rintro e c39 ⟨zz,rfl,tr,b⟩
      replace RL:=hid (Below.and RL.out b)
      replace AL:=hid (And.intro (AL.out.1.below b) AL.out.2)
      replace OT:=hid (OT.out.below b)
      obtain⟨zl,zP,zQ,zR,zS⟩:=zz
      obtain⟨z1,z2,z3,z4,z5,z6,z7,z8,z9,za,zb,zc,hxz⟩:=tr.treeF.slices
      simp only[TV.mk.injEq,true_and] at hxz
      obtain⟨hxz1,hxz2,hxz3,hxz4⟩:=hxz
      subst hxz1 hxz2 hxz3 hxz4
      have TR:=hid tr.lt
      clear tr b
      refine⟨_,rfl, ?_⟩
      refine hK.out _ _ (KEEP.out _ RL.out) (fun hH2=> ?_)
      clear hK K hH
      have hH:=hH2
      clear hH2
      try simp only[Act.put,sA,sB,sC]
      have bz:BoxT c39 L38 #[.bool false, .slice none 0 0, .slice none 0 0, .slice none 0 0, .slice none 0 0]:=AL.out.1
      have q8c:=bz.cells
      have q9f:=bz.free
      have hle:=AL.out.2
      have BB:Below w14.heap.size w14 (setT c39 L38 (.bool zl) (.slice z1 z5 z9) (.slice z2 z6 za) (.slice z3 z7 zb) (.slice z4 z8 zc)):=setT_below RL.out hle _ _ _ _ _
      have GT:Hid (Got n T2 w14 (TV.mk zl (.slice z1 z5 z9) (.slice z2 z6 za) (.slice z3 z7 zb) (.slice z4 z8 zc)) L38 (setT c39 L38 (.bool zl) (.slice z1 z5 z9) (.slice z2 z6 za) (.slice z3 z7 zb) (.slice z4 z8 zc))):=⟨bz.set5 _ _ _ _ _,(TR.out.chg (chg_setT c39 L38 _ _ _ _ _) (fun g hg e=>by omega)).mono (fun g hg=>by omega),hle,BB⟩
      have KB:=KEEP.out _ BB
      clear BB TR bz RL OT
      refine wpAnyH_ready (rs:=[6]) (by kernel_rfl) (by simp) ?_
      refine AllReadyH.cons (o:=⟨_,_,_,_,_,_⟩) rfl (fun K hK=> ?_) AllReadyH.nil
      go_simp
      refine hK.out _ _ (KB) (fun hH2=> ?_)
      clear hK K hH
      have hH:=hH2
      clear hH2
      try simp only[Act.put,sA,sB,sC]
      refine wpAnyH_done (by kernel_rfl) ?_ _
      clear KB hH q8c q9f KEEP
      go_wp2_with fail
      go_meet
      case rel=>exact⟨L38,(TV.mk zl (.slice z1 z5 z9) (.slice z2 z6 za) (.slice z3 z7 zb) (.slice z4 z8 zc)),rfl,GT⟩
    ·skip
     go_simp
     have hbs:=RL.out.size
     replace RL:=hid (Below.and RL.out (al1 c32 (.cells #[.bool false, .slice none 0 0, .slice none 0 0, .slice none 0 0, .slice none 0 0] 35)))
     replace OT:=hid (OT.out.below (al1 c32 (.cells #[.bool false, .slice none 0 0, .slice none 0 0, .slice none 0 0, .slice none 0 0] 35)))
     have AL:Hid (LB 35 (c32.alloc (.cells #[.bool false, .slice none 0 0, .slice none 0 0, .slice none 0 0, .slice none 0 0] 35)) c32.heap.size #[.bool false, .slice none 0 0, .slice none 0 0, .slice none 0 0, .slice none 0 0]/\w14.heap.size<=c32.heap.size):=⟨LB.new _ _ _,hbs⟩
     refine hK.out _ _ (KEEP.out _ RL.out) (fun hH2=> ?_)
     clear hK K hH
     have hH:=hH2
     clear hH2
     try simp only[Act.put,sA,sB,sC]
     generalize (c32.alloc (.cells #[.bool false, .slice none 0 0, .slice none 0 0, .slice none 0 0, .slice none 0 0] 35))=c40 at *
     generalize c32.heap.size=L41 at *
     refine wpAnyH_ready (rs:=[3]) (by kernel_rfl) (by simp) ?_
     refine AllReadyH.cons (o:=⟨_,_,_,_,_,_⟩) rfl (fun K hK=> ?_) AllReadyH.nil
     refine(if_pos (show Region.wanted _ _=true by kernel_rfl)).mpr ?_
     refine call_by 11 [.tmp 62] #[29] rfl run_toMsg [.agg #[.int .i64 mo, .int .i64 mk, .int .i64 mv]] rfl (TM.out _) ?_
     rintro e c42 ⟨rfl,b⟩
     replace RL:=hid (Below.and RL.out b)
     replace AL:=hid (And.intro (AL.out.1.below b) AL.out.2)
     replace OT:=hid (OT.out.below b)
     clear b
     refine⟨_,rfl, ?_⟩
     refine hK.out _ _ (KEEP.out _ RL.out) (fun hH2=> ?_)
     clear hK K hH
     have hH:=hH2
     clear hH2
     try simp only[Act.put,sA,sB,sC]
     refine wpAnyH_ready (rs:=[4]) (by kernel_rfl) (by simp) ?_
     refine AllReadyH.cons (o:=⟨_,_,_,_,_,_⟩) rfl (fun K hK=> ?_) AllReadyH.nil
     refine(if_pos (show Region.wanted _ _=true by kernel_rfl)).mpr ?_
     refine call_by 12 [.tmp 61, .tmp 63] #[35,38] rfl run_implInject [(TV.mk sl (.slice s1 s5 s9) (.slice s2 s6 sa) (.slice s3 s7 sb) (.slice s4 s8 sc)).val, .agg #[.int .i64 mo, .int .i64 mk, .int .i64 mv]] rfl (IP.out _ (TV.mk sl (.slice s1 s5 s9) (.slice s2 s6 sa) (.slice s3 s7 sb) (.slice s4 s8 sc)) _ OT.out) ?_
     have hsep:=AL.out.1.lt
     have hcu:=RL.out.size
     rintro e c43 ⟨zz,rfl,tr,b⟩
     replace RL:=hid (Below.and RL.out b)
     replace AL:=hid (And.intro (AL.out.1.below b) AL.out.2)
     replace OT:=hid (OT.out.below b)
     obtain⟨zl,zP,zQ,zR,zS⟩:=zz
     obtain⟨z1,z2,z3,z4,z5,z6,z7,z8,z9,za,zb,zc,hxz⟩:=tr.treeF.slices
     simp only[TV.mk.injEq,true_and] at hxz
     obtain⟨hxz1,hxz2,hxz3,hxz4⟩:=hxz
     subst hxz1 hxz2 hxz3 hxz4
     have TR:=hid tr.lt
     clear tr b
     refine⟨_,rfl, ?_⟩
     refine hK.out _ _ (KEEP.out _ RL.out) (fun hH2=> ?_)
     clear hK K hH
     have hH:=hH2
     clear hH2
     try simp only[Act.put,sA,sB,sC]
     have bz:BoxT c43 L41 #[.bool false, .slice none 0 0, .slice none 0 0, .slice none 0 0, .slice none 0 0]:=AL.out.1
     have q8c:=bz.cells
     have q9f:=bz.free
     have hle:=AL.out.2
     have BB:Below w14.heap.size w14 (setT c43 L41 (.bool zl) (.slice z1 z5 z9) (.slice z2 z6 za) (.slice z3 z7 zb) (.slice z4 z8 zc)):=setT_below RL.out hle _ _ _ _ _
     have GT:Hid (Got n T2 w14 (TV.mk zl (.slice z1 z5 z9) (.slice z2 z6 za) (.slice z3 z7 zb) (.slice z4 z8 zc)) L41 (setT c43 L41 (.bool zl) (.slice z1 z5 z9) (.slice z2 z6 za) (.slice z3 z7 zb) (.slice z4 z8 zc))):=⟨bz.set5 _ _ _ _ _,(TR.out.chg (chg_setT c43 L41 _ _ _ _ _) (fun g hg e=>by omega)).mono (fun g hg=>by omega),hle,BB⟩
     have KB:=KEEP.out _ BB
     clear BB TR bz RL OT
     refine wpAnyH_ready (rs:=[6]) (by kernel_rfl) (by simp) ?_
     refine AllReadyH.cons (o:=⟨_,_,_,_,_,_⟩) rfl (fun K hK=> ?_) AllReadyH.nil
     go_simp
     refine hK.out _ _ (KB) (fun hH2=> ?_)
     clear hK K hH
     have hH:=hH2
     clear hH2
     try simp only[Act.put,sA,sB,sC]
     refine wpAnyH_done (by kernel_rfl) ?_ _
     clear KB hH q8c q9f KEEP
     go_wp2_with fail
     go_meet
     case rel=>exact⟨L41,(TV.mk zl (.slice z1 z5 z9) (.slice z2 z6 za) (.slice z3 z7 zb) (.slice z4 z8 zc)),rfl,GT⟩
   ·skip
    go_simp
    have hbs:=RL.out.size
    replace RL:=hid (Below.and RL.out (al1 c31 (.cells #[.bool false, .slice none 0 0, .slice none 0 0, .slice none 0 0, .slice none 0 0] 35)))
    have AL:Hid (LB 35 (c31.alloc (.cells #[.bool false, .slice none 0 0, .slice none 0 0, .slice none 0 0, .slice none 0 0] 35)) c31.heap.size #[.bool false, .slice none 0 0, .slice none 0 0, .slice none 0 0, .slice none 0 0]/\w14.heap.size<=c31.heap.size):=⟨LB.new _ _ _,hbs⟩
    refine hK.out _ _ (KEEP.out _ RL.out) (fun hH2=> ?_)
    clear hK K hH
    have hH:=hH2
    clear hH2
    try simp only[Act.put,sA,sB,sC]
    generalize (c31.alloc (.cells #[.bool false, .slice none 0 0, .slice none 0 0, .slice none 0 0, .slice none 0 0] 35))=c44 at *
    generalize c31.heap.size=L45 at *
    refine wpAnyH_ready (rs:=[1]) (by kernel_rfl) (by simp) ?_
    refine AllReadyH.cons (o:=⟨_,_,_,_,_,_⟩) rfl (fun K hK=> ?_) AllReadyH.nil
    refine(if_pos (show Region.wanted _ _=true by kernel_rfl)).mpr ?_
    refine call_by 10 [.tmp 60] #[27] rfl run_toTree [.agg #[.bool dl, .slice d1 d5 d9, .slice d2 d6 da, .slice d3 d7 db, .slice d4 d8 dc]] rfl (TO.out _ (Below.and SB.out RL.out)) ?_
    rintro e c46 ⟨yt,rfl,ot,b⟩
    replace RL:=hid (Below.and RL.out b)
    replace AL:=hid (And.intro (AL.out.1.below b) AL.out.2)
    obtain⟨sl,sP,sQ,sR,sS⟩:=yt
    obtain⟨s1,s2,s3,s4,s5,s6,s7,s8,s9,sa,sb,sc,hxs⟩:=ot.treeF.slices
    simp only[TV.mk.injEq,true_and] at hxs
    obtain⟨hxs1,hxs2,hxs3,hxs4⟩:=hxs
    subst hxs1 hxs2 hxs3 hxs4
    have OT:=hid ot
    clear ot b
    refine⟨_,rfl, ?_⟩
    refine hK.out _ _ (KEEP.out _ RL.out) (fun hH2=> ?_)
    clear hK K hH
    have hH:=hH2
    clear hH2
    try simp only[Act.put,sA,sB,sC]
    refine wpAnyH_ready (rs:=[3]) (by kernel_rfl) (by simp) ?_
    refine AllReadyH.cons (o:=⟨_,_,_,_,_,_⟩) rfl (fun K hK=> ?_) AllReadyH.nil
    refine(if_pos (show Region.wanted _ _=true by kernel_rfl)).mpr ?_
    refine call_by 11 [.tmp 62] #[29] rfl run_toMsg [.agg #[.int .i64 mo, .int .i64 mk, .int .i64 mv]] rfl (TM.out _) ?_
    rintro e c47 ⟨rfl,b⟩
    replace RL:=hid (Below.and RL.out b)
    replace AL:=hid (And.intro (AL.out.1.below b) AL.out.2)
    replace OT:=hid (OT.out.below b)
    clear b
    refine⟨_,rfl, ?_⟩
    refine hK.out _ _ (KEEP.out _ RL.out) (fun hH2=> ?_)
    clear hK K hH
    have hH:=hH2
    clear hH2
    try simp only[Act.put,sA,sB,sC]
    refine wpAnyH_ready (rs:=[4]) (by kernel_rfl) (by simp) ?_
    refine AllReadyH.cons (o:=⟨_,_,_,_,_,_⟩) rfl (fun K hK=> ?_) AllReadyH.nil
    refine(if_pos (show Region.wanted _ _=true by kernel_rfl)).mpr ?_
    refine call_by 12 [.tmp 61, .tmp 63] #[35,38] rfl run_implInject [(TV.mk sl (.slice s1 s5 s9) (.slice s2 s6 sa) (.slice s3 s7 sb) (.slice s4 s8 sc)).val, .agg #[.int .i64 mo, .int .i64 mk, .int .i64 mv]] rfl (IP.out _ (TV.mk sl (.slice s1 s5 s9) (.slice s2 s6 sa) (.slice s3 s7 sb) (.slice s4 s8 sc)) _ OT.out) ?_
    have hsep:=AL.out.1.lt
    have hcu:=RL.out.size
    rintro e c48 ⟨zz,rfl,tr,b⟩
    replace RL:=hid (Below.and RL.out b)
    replace AL:=hid (And.intro (AL.out.1.below b) AL.out.2)
    replace OT:=hid (OT.out.below b)
    obtain⟨zl,zP,zQ,zR,zS⟩:=zz
    obtain⟨z1,z2,z3,z4,z5,z6,z7,z8,z9,za,zb,zc,hxz⟩:=tr.treeF.slices
    simp only[TV.mk.injEq,true_and] at hxz
    obtain⟨hxz1,hxz2,hxz3,hxz4⟩:=hxz
    subst hxz1 hxz2 hxz3 hxz4
    have TR:=hid tr.lt
    clear tr b
    refine⟨_,rfl, ?_⟩
    refine hK.out _ _ (KEEP.out _ RL.out) (fun hH2=> ?_)
    clear hK K hH
    have hH:=hH2
    clear hH2
    try simp only[Act.put,sA,sB,sC]
    have bz:BoxT c48 L45 #[.bool false, .slice none 0 0, .slice none 0 0, .slice none 0 0, .slice none 0 0]:=AL.out.1
    have q8c:=bz.cells
    have q9f:=bz.free
    have hle:=AL.out.2
    have BB:Below w14.heap.size w14 (setT c48 L45 (.bool zl) (.slice z1 z5 z9) (.slice z2 z6 za) (.slice z3 z7 zb) (.slice z4 z8 zc)):=setT_below RL.out hle _ _ _ _ _
    have GT:Hid (Got n T2 w14 (TV.mk zl (.slice z1 z5 z9) (.slice z2 z6 za) (.slice z3 z7 zb) (.slice z4 z8 zc)) L45 (setT c48 L45 (.bool zl) (.slice z1 z5 z9) (.slice z2 z6 za) (.slice z3 z7 zb) (.slice z4 z8 zc))):=⟨bz.set5 _ _ _ _ _,(TR.out.chg (chg_setT c48 L45 _ _ _ _ _) (fun g hg e=>by omega)).mono (fun g hg=>by omega),hle,BB⟩
    have KB:=KEEP.out _ BB
    clear BB TR bz RL OT
    refine wpAnyH_ready (rs:=[6]) (by kernel_rfl) (by simp) ?_
    refine AllReadyH.cons (o:=⟨_,_,_,_,_,_⟩) rfl (fun K hK=> ?_) AllReadyH.nil
    go_simp
    refine hK.out _ _ (KB) (fun hH2=> ?_)
    clear hK K hH
    have hH:=hH2
    clear hH2
    try simp only[Act.put,sA,sB,sC]
    refine wpAnyH_done (by kernel_rfl) ?_ _
    clear KB hH q8c q9f KEEP
    go_wp2_with fail
    go_meet
    case rel=>exact⟨L45,(TV.mk zl (.slice z1 z5 z9) (.slice z2 z6 za) (.slice z3 z7 zb) (.slice z4 z8 zc)),rfl,GT⟩
  case rest=>
  obtain⟨LH,zh,rfl,GH⟩:=hcut
  obtain⟨ml,mP,mQ,mR,mS⟩:=zh
  obtain⟨m1,m2,m3,m4,m5,m6,m7,m8,m9,ma,mb,mc,hxm⟩:=GH.out.2.1.treeF.slices
  simp only[TV.mk.injEq,true_and] at hxm
  obtain⟨hxm1,hxm2,hxm3,hxm4⟩:=hxm
  subst hxm1 hxm2 hxm3 hxm4
  have bw:=GH.out.2.2.2
  replace SB:=hid (Below.and SB.out bw)
  replace B0:=hid (B0.out.below bw)
  replace BM:=hid (BM.out.below bw)
  replace TW:=hid (TW.out.below bw)
  replace BW:=hid (BW.out.below bw)
  replace BX:=hid (BX.out.below bw)
  replace BG:=hid (BG.out.below bw)
  replace SV:=hid (Nat.le_trans SV.out (bw).size)
  replace TG:=hid (TG.out.below bw)
  have TH:Hid (TreeD n wc _ (TV.mk ml (.slice m1 m5 m9) (.slice m2 m6 ma) (.slice m3 m7 mb) (.slice m4 m8 mc)) T2):=GH.out.2.1
  have BH:Hid (LB 35 wc LH #[.bool ml, .slice m1 m5 m9, .slice m2 m6 ma, .slice m3 m7 mb, .slice m4 m8 mc]):=GH.out.1
  clear bw GH
  generalize wc=V17 at *
  have kBH:=BH.out.cells
  have kBW:=BW.out.cells
  go_wp2_with fail
  refine Calls.mono (eqTree_any n (TV.mk ml (.slice m1 m5 m9) (.slice m2 m6 ma) (.slice m3 m7 mb) (.slice m4 m8 mc)) (TV.mk al (.slice a1 a5 a9) (.slice a2 a6 aa) (.slice a3 a7 ab) (.slice a4 a8 ac)) T2 _ TH.out.treeF.treeAt TW.out.treeF.treeAt) ?_
  rintro e w18 ⟨rfl,bq⟩
  clear kBH kBW
  replace SB:=hid (Below.and SB.out bq)
  replace B0:=hid (B0.out.below bq)
  replace BM:=hid (BM.out.below bq)
  replace TW:=hid (TW.out.below bq)
  replace BW:=hid (BW.out.below bq)
  replace BX:=hid (BX.out.below bq)
  replace BG:=hid (BG.out.below bq)
  replace SV:=hid (Nat.le_trans SV.out (bq).size)
  replace TG:=hid (TG.out.below bq)
  clear bq TH BH
  have kBG:=BG.out.cells
  go_wp2_with fail
  refine Calls.mono (heldTree_m n (TV.mk gl (.slice g1 g5 g9) (.slice g2 g6 ga) (.slice g3 g7 gb) (.slice g4 g8 gc)) T2 1 w18 TG.out.treeF.treeAt (by omega) (by have:=HMG.out;omega)) ?_
  rintro e w19 ⟨rfl,bq⟩
  rw[HMG.out]
  clear kBG
  replace SB:=hid (Below.and SB.out bq)
  replace B0:=hid (B0.out.below bq)
  replace BM:=hid (BM.out.below bq)
  replace TW:=hid (TW.out.below bq)
  replace BW:=hid (BW.out.below bq)
  replace BX:=hid (BX.out.below bq)
  replace BG:=hid (BG.out.below bq)
  replace SV:=hid (Nat.le_trans SV.out (bq).size)
  replace TG:=hid (TG.out.below bq)
  clear bq
  go_wp2
  go_ret
  exact⟨rfl,SB.out⟩
 ·have SZ:Hid (∀u,Below w.heap.size w u->Calls Tryz.prog 8 #[.agg #[.bool dl, .slice d1 d5 d9, .slice d2 d6 da, .slice d3 d7 db, .slice d4 d8 dc], .int .i64 1048576] u fun e w' =>e= .returned (.int .i64 (-1))/\Below u.heap.size u w'):=fun u hu=>by
   have:=SZ0.out u hu
   rw[leftOf_no hbig] at this
   exact this
  clear hbig SZ0
  go_enter Tryz.func3,Tryz.ntmps3
  go_wp2_with fail
  generalize ((w.alloc (.cells #[.bool dl, .slice d1 d5 d9, .slice d2 d6 da, .slice d3 d7 db, .slice d4 d8 dc] 27)).alloc (.cells #[.int .i64 mo, .int .i64 mk, .int .i64 mv] 29))=W at *
  refine(SZ.out _ SB.out).mono ?_
  rintro e w1 ⟨rfl,b1⟩
  go_wp2
  go_ret
  exact⟨rfl,Below.and SB.out b1⟩
end
end Go.Proofs.YtcmofojechfccaaGreat
