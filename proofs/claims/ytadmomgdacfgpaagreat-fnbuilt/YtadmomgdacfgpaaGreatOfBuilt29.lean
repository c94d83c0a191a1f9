/-
  The model's l4SameMap: two maps are the same.
  Build of the model.
  The law FnBuilt at any row of bytes.
-/
import Derived.Test.YtadmomgdacfgpaaGreatOfBuilt4
import Derived.Test.YtadmomgdacfgpaaGreatOfBuilt28
import Derived.Test.YtadmomgdacfgpaaGreatOfBuilt11
import Derived.Test.YtadmomgdacfgpaaGreatOfBuilt14
import Derived.Test.YtadmomgdacfgpaaGreatOfBuilt8
import Derived.Deep.RegionHeld3
namespace Go.Proofs.YtadmomgdacfgpaaGreat
set_option maxRecDepth 100000
set_option maxHeartbeats 8000000
section
open Go.RowKit

theorem PX (v1 v2:Value) (l1 l2:PL) (w:World) (h1:Row w v1 l1.length (Ai l1)) (h2:Row w v2 l2.length (Ai l2)) :
  Calls Tryz.prog 46 #[v1,v2] w fun e w' =>e= .returned (.bool (decide (l1=l2)))/\Below w.heap.size w w' :=by
 obtain⟨a,b,off,cap,rfl,hcap,hmax,ha,hx0,hx1⟩:=h1.pairs
 obtain⟨a2,b2,off2,cap2,rfl,hcap2,hmax2,ha2,hy0,hy1⟩:=h2.pairs
 unfold maxLen at hmax hmax2;go_enter Tryz.func46,Tryz.ntmps46
 go_wp2;go_loopw [5] (fun i wr=>∃k:Nat,k<=l1.length/\k<=l2.length/\i= .int .i64 k/\(∀i,i<k->kOf l1 i=kOf l2 i/\vOf l1 i=vOf l2 i)/\Below w.heap.size w wr)
  (fun i _=>l1.length-(intOf i).toNat)
 case atStart=>exact⟨0,Nat.zero_le _,Nat.zero_le _,rfl,fun i hi=>absurd hi (Nat.not_lt_zero _),Below.refl _ _⟩
 case round=>
  obtain⟨k,hkl,hkl2,rfl,hall,hb⟩:=hrel
  have ALL:Hid (∀i,i<k->kOf l1 i=kOf l2 i/\vOf l1 i=vOf l2 i):=hall
  clear hall;by_cases hlt:k<l1.length
  ·by_cases hlt2:k<l2.length
   ·have hal:=ha (by omega)
    subst hal;have hal2:=ha2 (by omega)
    subst hal2;have d0:=(hb.cell (by exact Aa (hx0 k hlt))).trans (hx0 k hlt)
    have d1:=(hb.cell (by exact Aa (hx1 k hlt))).trans (hx1 k hlt)
    have e0:=(hb.cell (by exact Aa (hy0 k hlt2))).trans (hy0 k hlt2)
    have e1:=(hb.cell (by exact Aa (hy1 k hlt2))).trans (hy1 k hlt2)
    have hg:=Tryz.guardP
    have hq:=Tryz.neqP (kOf l1 k) (vOf l1 k) (kOf l2 k) (vOf l2 k)
    clear ha ha2 hx0 hx1 hy0 hy1;by_cases he:kOf l1 k=kOf l2 k/\vOf l1 k=vOf l2 k
    ·rw[decide_eq_true he,Bool.not_true] at hq
     have EQ:Hid _:=he
     clear he;go_wp2;go_quiet (fail)
     go_wp2;go_roundw
     case rel=>exact⟨k+1,by omega,by omega,by go_num,fun i hi=>if h:i<k then ALL.out i h else by rw[show i=k by omega];exact EQ.out,below_drewN hb _⟩
     case measure=>simp[intOf];omega
    ·rw[decide_eq_false he,Bool.not_false] at hq
     have NE:Hid (decide (l1=l2)=false):=decide_eq_false (fun e=>he (by subst e;exact⟨rfl,rfl⟩))
     clear he;go_wp2;go_quiet (fail)
     go_wp2;go_ret;exact⟨AG NE.out.symm,below_drewN hb _⟩
   ·have NE:Hid (decide (l1=l2)=false):=decide_eq_false (fun e=>by subst e;omega)
    have hne:((l1.length:Int)==(l2.length:Int))=false:=by rw[beq_eq_false_iff_ne];omega
    go_wp2;go_ret;exact⟨AG NE.out.symm,hb⟩
  ·by_cases hl:l1.length=l2.length
   ·have YE:Hid (decide (l1=l2)=true):=decide_eq_true (Q6 hl (fun i hi=>ALL.out i (by omega)))
    have hne:((l1.length:Int)==(l2.length:Int))=true:=by rw[beq_iff_eq];omega
    clear hl;go_wp2;go_ret;exact⟨AG YE.out.symm,hb⟩
   ·have NE:Hid (decide (l1=l2)=false):=decide_eq_false (fun e=>hl (by rw[e]))
    have hne:((l1.length:Int)==(l2.length:Int))=false:=by rw[beq_eq_false_iff_ne];omega
    go_wp2;go_ret;exact⟨AG NE.out.symm,hb⟩
end
section
open Go.RowKit

theorem To (w:World):Calls Tryz.prog 14 #[] w fun e w' =>e= .returned (.agg #[.bool true, .slice none 0 0, .slice none 0 0, .slice none 0 0, .slice none 0 0])/\Below w.heap.size w w' :=by
 go_enter Tryz.func14,Tryz.ntmps14
 go_wp2;refine bodyPost_ret (v:= .agg #[.bool true, .slice none 0 0, .slice none 0 0, .slice none 0 0, .slice none 0 0]) (by simp[results,Tryz.results14,go_sem]) rfl ⟨rfl,(Below.refl _ _).alloc (Nat.le_refl _) _⟩
theorem Vz (args:Array Value) (w:World):(callFunc 13 args).run Tryz.prog w= .ok (.enter 13 args) w:=by go_simp
theorem Ow (II:∀(x:TV) (T:Tr) (F:Nat->Prop) (k v:Int) (u:World),Au 8 u F x T->AU 8 T<=1048576->Calls Tryz.prog 13 #[x.val, .agg #[.int .i64 1, .int .i64 k, .int .i64 v]] u fun e w' =>∃(y:TV) (N:Nat),e= .returned y.val/\Au N w' (fun g=>u.heap.size<=g) y (EK T (1,k,v))/\Below u.heap.size u w')
  (TM:∀(x:TV) (T:Tr) (u:World),AA 8 u x T->AU 8 T<=1048576->Calls Tryz.prog 47 #[x.val] u fun e w' =>∃v',e= .returned v' ∧w'.ownsRow u.heap.size 41 2 v' (De T).length (Ai (De T))/\Below u.heap.size u w')
  (v:Value) (l:List (Int × Int)) (w:World) (h:Row w v l.length (Ai l)) (hn:l.length<=1048576) :
  Calls Tryz.prog 18 #[v] w fun e w' =>∃y:TV,e= .returned (.tuple #[y.val, .bool (Cy l)])/\Au 8 w' (fun g=>w.heap.size<=g) y (CF l)/\Below w.heap.size w w' :=by
 obtain⟨a,b,off,cap,rfl,hcap,hmax,ha,hk,hv⟩:=h.pairs
 unfold maxLen at hmax;have MO:Hid (∀u,Below w.heap.size w u->Calls Tryz.prog 45 #[.slice a l.length cap] u fun e w' =>e= .returned (.bool (Bh l))/\Below u.heap.size u w'):=fun u hu=>CD _ l u (h.below hu)
 have EQ:Hid (∀u v' ,Below w.heap.size w u->Row u v' (De (D8 l)).length (Ai (De (D8 l)))->Calls Tryz.prog 46 #[v', .slice a l.length cap] u fun e w' =>e= .returned (.bool (decide (De (D8 l)=l)))/\Below u.heap.size u w'):=fun u v' hu hr=>PX v' _ (De (D8 l)) l u hr (h.below hu)
 have KV:Hid (∀j u,Below w.heap.size w u->j<l.length->u.cell? ⟨b,off+j*2,none⟩=some (.int .i64 (kOf l j))/\u.cell? ⟨b,off+j*2+1,none⟩=some (.int .i64 (vOf l j))):=fun j u hu hj=>⟨(hu.cell (Aa (hk j hj))).trans (hk j hj),(hu.cell (Aa (hv j hj))).trans (hv j hj)⟩
 have HA:=AY ha
 have IJ:=AY II
 have TMM:=AY TM
 have LT:Hid (l.take l.length=l):=List.take_length
 have L0:Hid (D8 (l.take 0)=nT):=rfl
 have BS:Hid (∀j,j<l.length->EK (D8 (l.take j)) (1,kOf l j,vOf l j)=D8 (l.take (j+1))):=fun j hj=>Nl l j hj
 have B1:Hid (Below w.heap.size w (w.alloc (.cells #[.bool false, .slice none 0 0, .slice none 0 0, .slice none 0 0, .slice none 0 0] 30))):=(Below.refl _ _).alloc (Nat.le_refl _) _
 have Y1:Hid ((w.alloc (.cells #[.bool false, .slice none 0 0, .slice none 0 0, .slice none 0 0, .slice none 0 0] 30)).heap[w.heap.size]? =some (.cells #[.bool false, .slice none 0 0, .slice none 0 0, .slice none 0 0, .slice none 0 0] 30 (0,0))):=heap_alloc_new w _
 have zw:Hid (w.heap.size<(w.alloc (.cells #[.bool false, .slice none 0 0, .slice none 0 0, .slice none 0 0, .slice none 0 0] 30)).heap.size):=by show _<_;simp
 have HN:=AY hn
 clear h hk hv ha II TM hn;generalize hL:l.length=L at *
 have HL:=AY hL
 clear hL;go_enter Tryz.func18,Tryz.ntmps18
 go_wp2_with fail;refine(MO.out _ B1.out).mono ?_
 rintro e w1 ⟨rfl,b1⟩
 replace Y1:=AY (stepB Y1.out b1)
 replace B1:=AY (Below.and B1.out b1)
 replace zw:=AY (Nat.lt_of_lt_of_le zw.out b1.size)
 clear b1 MO
 cases hm:Bh l
 ·have BF:Hid (Cy l=false):=by show _=_;unfold Cy;rw[hm];rfl
  clear hm;go_upto_region 2 with fail
  have TH:Hid (w1.there w.heap.size 0 (List.toArray ([.bool false, .slice none 0 0, .slice none 0 0, .slice none 0 0, .slice none 0 0]:List Value)).size):=Hu Y1.out rfl
  have XF:Hid ((w1.setCells w.heap.size 0 ([.bool false, .slice none 0 0, .slice none 0 0, .slice none 0 0, .slice none 0 0]:List Value)).heap[w.heap.size]? =some (.cells (List.toArray ([.bool false, .slice none 0 0, .slice none 0 0, .slice none 0 0, .slice none 0 0]:List Value)) 30 (0,0))):=Qr Y1.out _ rfl
  have HM:Hid ((Tryz.prog.info? 30).map (·.size)=some (List.toArray ([.bool false, .slice none 0 0, .slice none 0 0, .slice none 0 0, .slice none 0 0]:List Value)).size):=(show(Tryz.prog.info? 30).map (·.size)=some 5 by kernel_rfl)
  have AL:Hid ((List.toArray ([.bool false, .slice none 0 0, .slice none 0 0, .slice none 0 0, .slice none 0 0]:List Value)).all (·.oneCell')=true):=by show _=_;simp[Value.oneCell']
  have FIN:Hid (∃y:TV,Value.agg (List.toArray ([.bool false, .slice none 0 0, .slice none 0 0, .slice none 0 0, .slice none 0 0]:List Value))=y.val/\Au 8 (w1.setCells w.heap.size 0 ([.bool false, .slice none 0 0, .slice none 0 0, .slice none 0 0, .slice none 0 0]:List Value)) (fun g=>w.heap.size<=g) y (CF l)/\Below w.heap.size w (w1.setCells w.heap.size 0 ([.bool false, .slice none 0 0, .slice none 0 0, .slice none 0 0, .slice none 0 0]:List Value))):=⟨⟨false, .slice none 0 0, .slice none 0 0, .slice none 0 0, .slice none 0 0⟩,rfl,by unfold CF;rw[BF.out];exact NV false _ _,B1.out.trans ((Ck _ _ _).below (fun g _ hg=>by omega) B1.out.size)⟩
  clear Y1 B1;go_wp2_with (refine wpList_store_mid rfl 30 _ _ rfl w.heap.size 0 (List.toArray ([.bool false, .slice none 0 0, .slice none 0 0, .slice none 0 0, .slice none 0 0]:List Value)) rfl rfl TH.out HM.out AL.out ?_)
  generalize (w1.setCells w.heap.size 0 ([.bool false, .slice none 0 0, .slice none 0 0, .slice none 0 0, .slice none 0 0]:List Value))=WF at *
  exact⟨rfl,_,UQ Tryz.results18 _ WF w.heap.size 30 _ (0,0) _ rfl XF.out Tryz.underlying30 rfl HM.out,(by obtain⟨y,e,r⟩:=FIN.out;exact⟨y,by rw[←e,BF.out];rfl,r⟩)⟩
 have HM1:=AY hm
 clear hm;go_wp2_with fail;refine(To _).mono ?_
 rintro e w2 ⟨rfl,b2⟩
 have na:Below w2.heap.size w2 (w2.alloc (.cells #[.bool true, .slice none 0 0, .slice none 0 0, .slice none 0 0, .slice none 0 0] 30)):=(Below.refl _ _).alloc (Nat.le_refl _) _
 have XN:Hid ((w2.alloc (.cells #[.bool true, .slice none 0 0, .slice none 0 0, .slice none 0 0, .slice none 0 0] 30)).heap[w2.heap.size]? =some (.cells #[.bool true, .slice none 0 0, .slice none 0 0, .slice none 0 0, .slice none 0 0] 30 (0,0))):=heap_alloc_new w2 _
 replace Y1:=AY (stepB (stepB Y1.out b2) na)
 replace B1:=AY (Below.and (Below.and B1.out b2) na)
 have zn:Hid (w.heap.size<w2.heap.size):=Nat.lt_of_lt_of_le zw.out b2.size
 have zm:Hid (w2.heap.size<(w2.alloc (.cells #[.bool true, .slice none 0 0, .slice none 0 0, .slice none 0 0, .slice none 0 0] 30)).heap.size):=by show _<_;simp
 clear b2 na zw;go_upto_region 4 with fail
 generalize w2.alloc (.cells #[.bool true, .slice none 0 0, .slice none 0 0, .slice none 0 0, .slice none 0 0] 30)=W at *
 generalize w2.heap.size=NT at *
 go_wp2;go_loopw [5] (fun i wr=>∃(j:Nat) (yl:Bool) (y1 y2 y3 y4:Option Addr × Nat × Nat),i= .int .i64 j/\j<=L/\Hid (Au 8 wr (fun g=>NT<g) (⟨yl, .slice y1.1 y1.2.1 y1.2.2, .slice y2.1 y2.2.1 y2.2.2, .slice y3.1 y3.2.1 y3.2.2, .slice y4.1 y4.2.1 y4.2.2⟩:TV) (D8 (l.take j)))/\Hid (wr.heap[NT]? =some (.cells #[.bool yl, .slice y1.1 y1.2.1 y1.2.2, .slice y2.1 y2.2.1 y2.2.2, .slice y3.1 y3.2.1 y3.2.2, .slice y4.1 y4.2.1 y4.2.2] 30 (0,0)))/\Hid (wr.heap[w.heap.size]? =some (.cells #[.bool false, .slice none 0 0, .slice none 0 0, .slice none 0 0, .slice none 0 0] 30 (0,0)))/\Hid (Below w.heap.size w wr)/\Hid (NT<wr.heap.size))
  (fun i _=>L-(intOf i).toNat)
 case atStart=>exact⟨0,true,(none,0,0),(none,0,0),(none,0,0),(none,0,0),rfl,Nat.zero_le _,by show Au _ _ _ _ _;rw[L0.out];exact NV true _ _,XN.out,Y1.out,B1.out,zm.out⟩
 case round=>
  obtain⟨j,yl,y1,y2,y3,y4,rfl,hj,TD,XT,YR,BW,ZN⟩:=hrel
  clear XN Y1 B1 zm;by_cases hlt:j<L
  ·have hal:=HA.out (by omega)
   subst hal;obtain⟨d0,d1⟩:=KV.out j wr BW.out hlt
   have hj1:(j:Int)<(L:Int):=by omega
   have bs:=AY (BS.out j hlt)
   have OK1:=AY (Ic (l.take j))
   clear d0 d1;go_upto_region 7 with fail
   have KE:Hid (∀u,Below wr.heap.size wr u->(fun u:World=>u.cell? ⟨b,off+j*2,none⟩=some (.int .i64 (kOf l j))/\u.cell? ⟨b,off+j*2+1,none⟩=some (.int .i64 (vOf l j))) u):=fun u hu=>KV.out j u (Below.and BW.out hu) hlt
   have RLL:Hid (Below wr.heap.size wr wr.drew):=(Below.refl _ _).drew
   refine wp_region_held_drew (S:=(fun u:World=>u.cell? ⟨b,off+j*2,none⟩=some (.int .i64 (kOf l j))/\u.cell? ⟨b,off+j*2+1,none⟩=some (.int .i64 (vOf l j)))) (by kernel_rfl) (KE.out _ RLL.out) (fun hH=> ?_)
   refine wpAnyH_take (i:=1) (oi:=⟨_,_,_,_,_,_⟩) (v:= ?_) rfl (by kernel_rfl) (by kernel_rfl) (by kernel_rfl) (fun _ _ _ h=>h) (Or.inl ⟨by rfl, ?_⟩) (by assumption) ?_
   rotate_left
   ·((intro w' hSw;obtain⟨s0,s1⟩:=hSw;go_simp);(try with_reducible rfl))
   try simp only[Act.put,List.setIfInBounds_toArray,List.set_cons_zero,List.set_cons_succ]
   refine wpAnyH_take (i:=2) (oi:=⟨_,_,_,_,_,_⟩) (v:= ?_) rfl (by kernel_rfl) (by kernel_rfl) (by kernel_rfl) (fun _ _ _ h=>h) (Or.inl ⟨by rfl, ?_⟩) (by assumption) ?_
   rotate_left
   ·((intro w' hSw;obtain⟨s0,s1⟩:=hSw;go_simp);(try with_reducible rfl))
   try simp only[Act.put,List.setIfInBounds_toArray,List.set_cons_zero,List.set_cons_succ]
   refine wpAnyH_take (i:=3) (oi:=⟨_,_,_,_,_,_⟩) (v:= ?_) rfl (by kernel_rfl) (by kernel_rfl) (by kernel_rfl) (fun _ _ _ h=>h) (Or.inl ⟨by rfl, ?_⟩) (by assumption) ?_
   rotate_left
   ·((intro w' hSw;obtain⟨s0,s1⟩:=hSw;go_simp);(try with_reducible rfl))
   try simp only[Act.put,List.setIfInBounds_toArray,List.set_cons_zero,List.set_cons_succ]
   refine wpAnyH_take (i:=4) (oi:=⟨_,_,_,_,_,_⟩) (v:= ?_) rfl (by kernel_rfl) (by kernel_rfl) (by kernel_rfl) (fun _ _ _ h=>h) (Or.inl ⟨by rfl, ?_⟩) (by assumption) ?_
   rotate_left
   ·((intro w' hSw;obtain⟨s0,s1⟩:=hSw;go_simp);(try with_reducible rfl))
   try simp only[Act.put,List.setIfInBounds_toArray,List.set_cons_zero,List.set_cons_succ]
   refine wpAnyH_take (i:=5) (oi:=⟨_,_,_,_,_,_⟩) (v:= ?_) rfl (by kernel_rfl) (by kernel_rfl) (by kernel_rfl) (fun _ _ _ h=>h) (Or.inl ⟨by rfl, ?_⟩) (by assumption) ?_
   rotate_left
   ·((intro w' hSw;obtain⟨s0,s1⟩:=hSw;go_simp);(try with_reducible rfl))
   try simp only[Act.put,List.setIfInBounds_toArray,List.set_cons_zero,List.set_cons_succ]
   refine wpAnyH_take (i:=6) (oi:=⟨_,_,_,_,_,_⟩) (v:= ?_) rfl (by kernel_rfl) (by kernel_rfl) (by kernel_rfl) (fun _ _ _ h=>h) (Or.inl ⟨by rfl, ?_⟩) (by assumption) ?_
   rotate_left
   ·((intro w' hSw;obtain⟨s0,s1⟩:=hSw;go_simp);(try with_reducible rfl))
   try simp only[Act.put,List.setIfInBounds_toArray,List.set_cons_zero,List.set_cons_succ]
   refine wpAnyH_take (i:=7) (oi:=⟨_,_,_,_,_,_⟩) (v:= ?_) rfl (by kernel_rfl) (by kernel_rfl) (by kernel_rfl) (fun _ _ _ h=>h) (Or.inl ⟨by rfl, ?_⟩) (by assumption) ?_
   rotate_left
   ·((intro w' hSw;obtain⟨s0,s1⟩:=hSw;go_simp);(try with_reducible rfl))
   try simp only[Act.put,List.setIfInBounds_toArray,List.set_cons_zero,List.set_cons_succ]
   refine wpAnyH_take (i:=8) (oi:=⟨_,_,_,_,_,_⟩) (v:= ?_) rfl (by kernel_rfl) (by kernel_rfl) (by kernel_rfl) (fun _ _ _ h=>h) (Or.inl ⟨by rfl, ?_⟩) (by assumption) ?_
   rotate_left
   ·((intro w' hSw;obtain⟨s0,s1⟩:=hSw;go_simp);(try with_reducible rfl))
   try simp only[Act.put,List.setIfInBounds_toArray,List.set_cons_zero,List.set_cons_succ]
   refine wpAnyH_take (i:=9) (oi:=⟨_,_,_,_,_,_⟩) (v:= ?_) rfl (by kernel_rfl) (by kernel_rfl) (by kernel_rfl) (fun _ _ _ h=>h) (Or.inl ⟨by rfl, ?_⟩) (by assumption) ?_
   rotate_left
   ·((intro w' hSw;obtain⟨s0,s1⟩:=hSw;go_simp);(try with_reducible rfl))
   try simp only[Act.put,List.setIfInBounds_toArray,List.set_cons_zero,List.set_cons_succ]
   refine wpAnyH_take (i:=10) (oi:=⟨_,_,_,_,_,_⟩) (v:= ?_) rfl (by kernel_rfl) (by kernel_rfl) (by kernel_rfl) (fun _ _ _ h=>h) (Or.inl ⟨by rfl, ?_⟩) (by assumption) ?_
   rotate_left
   ·((intro w' hSw;obtain⟨s0,s1⟩:=hSw;go_simp);(try with_reducible rfl))
   try simp only[Act.put,List.setIfInBounds_toArray,List.set_cons_zero,List.set_cons_succ]
   refine wpAnyH_take (i:=11) (oi:=⟨_,_,_,_,_,_⟩) (v:= ?_) rfl (by kernel_rfl) (by kernel_rfl) (by kernel_rfl) (fun _ _ _ h=>h) (Or.inl ⟨by rfl, ?_⟩) (by assumption) ?_
   rotate_left
   ·((intro w' hSw;obtain⟨s0,s1⟩:=hSw;go_simp);(try with_reducible rfl))
   try simp only[Act.put,List.setIfInBounds_toArray,List.set_cons_zero,List.set_cons_succ]
   have RG0:Hid (wr.drew.rangeAt NT 0 ([.bool yl, .slice y1.1 y1.2.1 y1.2.2, .slice y2.1 y2.2.1 y2.2.2, .slice y3.1 y3.2.1 y3.2.2, .slice y4.1 y4.2.1 y4.2.2]:List Value)):=RZ (stepB XT.out RLL.out)
   refine wpAnyH_ready (rs:=[0]) (by kernel_rfl) (by simp) ?_
   refine AllReadyH.cons (o:=⟨_,_,_,_,_,_⟩) rfl (fun K hK=> ?_) AllReadyH.nil
   refine(if_pos (show Region.wanted _ _=true by kernel_rfl)).mpr ?_
   refine wp_load_mid 30 _ rfl NT 0 rfl ([.bool yl, .slice y1.1 y1.2.1 y1.2.2, .slice y2.1 y2.2.1 y2.2.2, .slice y3.1 y3.2.1 y3.2.2, .slice y4.1 y4.2.1 y4.2.2]:List Value) _ RG0.out Tryz.underlying30 rfl (by kernel_rfl) ?_
   refine hK.out _ _ (KE.out _ RLL.out) (fun hH2=> ?_)
   clear hK K hH;have hH:=hH2
   clear hH2 RG0;try simp only[Act.put,List.setIfInBounds_toArray,List.set_cons_zero,List.set_cons_succ]
   have C:=AY (IJ.out (⟨yl, .slice y1.1 y1.2.1 y1.2.2, .slice y2.1 y2.2.1 y2.2.2, .slice y3.1 y3.2.1 y3.2.2, .slice y4.1 y4.2.1 y4.2.2⟩:TV) (D8 (l.take j)) _ (kOf l j) (vOf l j) wr.drew (TD.out.below RLL.out) (by have:=sz8 OK1.out;omega))
   refine wpAnyH_ready (rs:=[12]) (by kernel_rfl) (by simp) ?_
   refine AllReadyH.cons (o:=⟨_,_,_,_,_,_⟩) rfl (fun K hK=> ?_) AllReadyH.nil
   refine(if_pos (show Region.wanted _ _=true by kernel_rfl)).mpr ?_
   refine KU 13 [.tmp 17, .tmp 28] #[30,35] rfl Vz _ rfl C.out ?_
   rintro e w3 ⟨z,NN,rfl,td,b3'⟩
   have b3:=Below.and RLL.out b3'
   replace td:=td.mono (G:=fun g=>wr.heap.size<=g) (fun g hg=>Nat.le_trans RLL.out.size hg)
   clear b3';rw[bs.out] at td
   replace td:=ok8 td (Ic _)
   obtain⟨zl,z1,z2,z3,z4,hz⟩:=td.slb
   subst hz;refine⟨_,rfl, ?_⟩
   have S3:=AY (KE.out _ b3)
   refine hK.out _ _ S3.out (fun hH2=> ?_)
   clear hK K hH;have hH:=hH2
   clear hH2 S3;try simp only[Act.put,List.setIfInBounds_toArray,List.set_cons_zero,List.set_cons_succ]
   replace XT:=AY (stepB XT.out b3)
   replace YR:=AY (stepB YR.out b3)
   replace BW:=AY (Below.and BW.out b3)
   have TD3:=AY (td.mono (G:=fun g=>NT<g) (fun g hg=>Nat.lt_of_lt_of_le ZN.out hg))
   replace ZN:=AY (Nat.lt_of_lt_of_le ZN.out b3.size)
   clear TD td b3 C;have TH:Hid (w3.there NT 0 (List.toArray ([.bool zl, .slice z1.1 z1.2.1 z1.2.2, .slice z2.1 z2.2.1 z2.2.2, .slice z3.1 z3.2.1 z3.2.2, .slice z4.1 z4.2.1 z4.2.2]:List Value)).size):=Hu XT.out rfl
   have HM:Hid ((Tryz.prog.info? 30).map (·.size)=some (List.toArray ([.bool zl, .slice z1.1 z1.2.1 z1.2.2, .slice z2.1 z2.2.1 z2.2.2, .slice z3.1 z3.2.1 z3.2.2, .slice z4.1 z4.2.1 z4.2.2]:List Value)).size):=(show(Tryz.prog.info? 30).map (·.size)=some 5 by kernel_rfl)
   have AL:Hid ((List.toArray ([.bool zl, .slice z1.1 z1.2.1 z1.2.2, .slice z2.1 z2.2.1 z2.2.2, .slice z3.1 z3.2.1 z3.2.2, .slice z4.1 z4.2.1 z4.2.2]:List Value)).all (·.oneCell')=true):=by show _=_;simp[Value.oneCell']
   have XT4:Hid ((w3.setCells NT 0 ([.bool zl, .slice z1.1 z1.2.1 z1.2.2, .slice z2.1 z2.2.1 z2.2.2, .slice z3.1 z3.2.1 z3.2.2, .slice z4.1 z4.2.1 z4.2.2]:List Value)).heap[NT]? =some (.cells (List.toArray ([.bool zl, .slice z1.1 z1.2.1 z1.2.2, .slice z2.1 z2.2.1 z2.2.2, .slice z3.1 z3.2.1 z3.2.2, .slice z4.1 z4.2.1 z4.2.2]:List Value)) 30 (0,0))):=Qr XT.out _ rfl
   have GC:=Ck w3 NT ([.bool zl, .slice z1.1 z1.2.1 z1.2.2, .slice z2.1 z2.2.1 z2.2.2, .slice z3.1 z3.2.1 z3.2.2, .slice z4.1 z4.2.1 z4.2.2]:List Value)
   have YR4:=AY (Fl (F:=fun g=>g=NT) YR.out GC (by have:=zn.out;omega))
   have BW4:=AY (BW.out.trans (GC.below (fun g _ e=>by have:=zn.out;omega) BW.out.size))
   have TD4:=AY (TD3.out.chg GC (fun g hg e=>by omega))
   have ZN4:Hid (NT<(w3.setCells NT 0 ([.bool zl, .slice z1.1 z1.2.1 z1.2.2, .slice z2.1 z2.2.1 z2.2.2, .slice z3.1 z3.2.1 z3.2.2, .slice z4.1 z4.2.1 z4.2.2]:List Value)).heap.size):=Nat.lt_of_lt_of_le ZN.out GC.size
   clear GC XT YR BW TD3 ZN;refine wpAnyH_ready (rs:=[13]) (by kernel_rfl) (by simp) ?_
   refine AllReadyH.cons (o:=⟨_,_,_,_,_,_⟩) rfl (fun K hK=> ?_) AllReadyH.nil
   refine(if_pos (show Region.wanted _ _=true by kernel_rfl)).mpr ?_
   refine wp_store_mid 30 _ _ rfl NT 0 (List.toArray ([.bool zl, .slice z1.1 z1.2.1 z1.2.2, .slice z2.1 z2.2.1 z2.2.2, .slice z3.1 z3.2.1 z3.2.2, .slice z4.1 z4.2.1 z4.2.2]:List Value)) rfl rfl TH.out HM.out AL.out ?_
   have S4:Hid ((fun u:World=>u.cell? ⟨b,off+j*2,none⟩=some (.int .i64 (kOf l j))/\u.cell? ⟨b,off+j*2+1,none⟩=some (.int .i64 (vOf l j))) (w3.setCells NT 0 ([.bool zl, .slice z1.1 z1.2.1 z1.2.2, .slice z2.1 z2.2.1 z2.2.2, .slice z3.1 z3.2.1 z3.2.2, .slice z4.1 z4.2.1 z4.2.2]:List Value))):=KV.out j _ BW4.out hlt
   refine hK.out _ _ S4.out (fun hH2=> ?_)
   clear hK K hH;try simp only[Act.put]
   refine wpAnyH_done (by kernel_rfl) ?_ _
   clear hH2 S4;generalize w3.setCells NT 0 ([.bool zl, .slice z1.1 z1.2.1 z1.2.2, .slice z2.1 z2.2.1 z2.2.2, .slice z3.1 z3.2.1 z3.2.2, .slice z4.1 z4.2.1 z4.2.2]:List Value)=V4 at *
   go_wp2;go_roundw
   case rel=>exact⟨j+1,zl,z1,z2,z3,z4,by go_num,by omega,TD4.out,XT4.out,YR4.out,BW4.out,ZN4.out⟩
   case measure=>simp[intOf];omega
  ·have hjL:j=L:=by omega
   have TD2:Hid (Au 8 wr (fun g=>NT<g) (⟨yl, .slice y1.1 y1.2.1 y1.2.2, .slice y2.1 y2.2.1 y2.2.2, .slice y3.1 y3.2.1 y3.2.2, .slice y4.1 y4.2.1 y4.2.2⟩:TV) (D8 l)):=by have:=TD.out;rw[hjL,LT.out] at this;exact this
   have hj2:¬(j:Int)<(L:Int):=by omega
   clear TD KV HA BS;have c1:=fun i=>Ac (j:=i) XT.out
   have OK2:=AY (Ic l)
   have TA:=AY (TMM.out (⟨yl, .slice y1.1 y1.2.1 y1.2.2, .slice y2.1 y2.2.1 y2.2.2, .slice y3.1 y3.2.1 y3.2.2, .slice y4.1 y4.2.1 y4.2.2⟩:TV) (D8 l) wr TD2.out.treeF.treeAt (by have:=sz8 OK2.out;omega))
   go_wp2_with fail;refine TA.out.mono ?_
   rintro e w5 ⟨v5,rfl,o5,b5⟩
   have E5:=AY (EQ.out w5 v5 (Below.and BW.out b5) (Row.of_owns o5))
   replace XT:=AY (stepB XT.out b5)
   replace YR:=AY (stepB YR.out b5)
   replace BW:=AY (Below.and BW.out b5)
   replace TD2:=AY (TD2.out.below b5)
   clear b5 o5 c1 TA;go_wp2_with fail;refine E5.out.mono ?_
   rintro e w6 ⟨rfl,b6⟩
   replace XT:=AY (stepB XT.out b6)
   replace YR:=AY (stepB YR.out b6)
   replace BW:=AY (Below.and BW.out b6)
   replace TD2:=AY (TD2.out.below b6)
   clear b6 E5 EQ;by_cases he:De (D8 l)=l
   ·have BF:Hid (Cy l=true):=by show _=_;unfold Cy;rw[HM1.out];simpa using he
    have hd:decide (De (D8 l)=l)=true:=by simpa using he
    rw[hd]
    clear he hd;have RG:Hid (w6.rangeAt NT 0 ([.bool yl, .slice y1.1 y1.2.1 y1.2.2, .slice y2.1 y2.2.1 y2.2.2, .slice y3.1 y3.2.1 y3.2.2, .slice y4.1 y4.2.1 y4.2.2]:List Value)):=RZ XT.out
    have TH:Hid (w6.there w.heap.size 0 (List.toArray ([.bool yl, .slice y1.1 y1.2.1 y1.2.2, .slice y2.1 y2.2.1 y2.2.2, .slice y3.1 y3.2.1 y3.2.2, .slice y4.1 y4.2.1 y4.2.2]:List Value)).size):=Hu YR.out rfl
    have XF:Hid ((w6.setCells w.heap.size 0 ([.bool yl, .slice y1.1 y1.2.1 y1.2.2, .slice y2.1 y2.2.1 y2.2.2, .slice y3.1 y3.2.1 y3.2.2, .slice y4.1 y4.2.1 y4.2.2]:List Value)).heap[w.heap.size]? =some (.cells (List.toArray ([.bool yl, .slice y1.1 y1.2.1 y1.2.2, .slice y2.1 y2.2.1 y2.2.2, .slice y3.1 y3.2.1 y3.2.2, .slice y4.1 y4.2.1 y4.2.2]:List Value)) 30 (0,0))):=Qr YR.out _ rfl
    have HM:Hid ((Tryz.prog.info? 30).map (·.size)=some (List.toArray ([.bool yl, .slice y1.1 y1.2.1 y1.2.2, .slice y2.1 y2.2.1 y2.2.2, .slice y3.1 y3.2.1 y3.2.2, .slice y4.1 y4.2.1 y4.2.2]:List Value)).size):=(show(Tryz.prog.info? 30).map (·.size)=some 5 by kernel_rfl)
    have HM0:Hid ((Tryz.prog.info? 30).map (·.size)=some (List.length ([.bool yl, .slice y1.1 y1.2.1 y1.2.2, .slice y2.1 y2.2.1 y2.2.2, .slice y3.1 y3.2.1 y3.2.2, .slice y4.1 y4.2.1 y4.2.2]:List Value))):=(show(Tryz.prog.info? 30).map (·.size)=some 5 by kernel_rfl)
    have AL:Hid ((List.toArray ([.bool yl, .slice y1.1 y1.2.1 y1.2.2, .slice y2.1 y2.2.1 y2.2.2, .slice y3.1 y3.2.1 y3.2.2, .slice y4.1 y4.2.1 y4.2.2]:List Value)).all (·.oneCell')=true):=by show _=_;simp[Value.oneCell']
    have FIN:Hid (∃y:TV,Value.agg (List.toArray ([.bool yl, .slice y1.1 y1.2.1 y1.2.2, .slice y2.1 y2.2.1 y2.2.2, .slice y3.1 y3.2.1 y3.2.2, .slice y4.1 y4.2.1 y4.2.2]:List Value))=y.val/\Au 8 (w6.setCells w.heap.size 0 ([.bool yl, .slice y1.1 y1.2.1 y1.2.2, .slice y2.1 y2.2.1 y2.2.2, .slice y3.1 y3.2.1 y3.2.2, .slice y4.1 y4.2.1 y4.2.2]:List Value)) (fun g=>w.heap.size<=g) y (CF l)/\Below w.heap.size w (w6.setCells w.heap.size 0 ([.bool yl, .slice y1.1 y1.2.1 y1.2.2, .slice y2.1 y2.2.1 y2.2.2, .slice y3.1 y3.2.1 y3.2.2, .slice y4.1 y4.2.1 y4.2.2]:List Value))):=⟨(⟨yl, .slice y1.1 y1.2.1 y1.2.2, .slice y2.1 y2.2.1 y2.2.2, .slice y3.1 y3.2.1 y3.2.2, .slice y4.1 y4.2.1 y4.2.2⟩:TV),rfl,by unfold CF;rw[BF.out];exact(TD2.out.chg (Ck _ _ _) (fun g hg e=>by have:=zn.out;omega)).mono (fun g hg=>by have:=zn.out;omega),BW.out.trans ((Ck _ _ _).below (fun g _ hg=>by omega) BW.out.size)⟩
    clear XT YR BW TD2;go_wp2_with (first|(refine wpList_load_mid rfl 30 _ rfl NT 0 rfl ([.bool yl, .slice y1.1 y1.2.1 y1.2.2, .slice y2.1 y2.2.1 y2.2.2, .slice y3.1 y3.2.1 y3.2.2, .slice y4.1 y4.2.1 y4.2.2]:List Value) _ RG.out Tryz.underlying30 rfl HM0.out ?_)|(refine wpList_store_mid rfl 30 _ _ rfl w.heap.size 0 (List.toArray ([.bool yl, .slice y1.1 y1.2.1 y1.2.2, .slice y2.1 y2.2.1 y2.2.2, .slice y3.1 y3.2.1 y3.2.2, .slice y4.1 y4.2.1 y4.2.2]:List Value)) rfl rfl TH.out HM.out AL.out ?_))
    generalize w6.setCells w.heap.size 0 ([.bool yl, .slice y1.1 y1.2.1 y1.2.2, .slice y2.1 y2.2.1 y2.2.2, .slice y3.1 y3.2.1 y3.2.2, .slice y4.1 y4.2.1 y4.2.2]:List Value)=WF at *
    exact⟨rfl,_,UQ Tryz.results18 _ WF w.heap.size 30 _ (0,0) _ rfl XF.out Tryz.underlying30 rfl HM.out,(by obtain⟨y,e,r⟩:=FIN.out;exact⟨y,by rw[←e,BF.out];rfl,r⟩)⟩
   ·have BF:Hid (Cy l=false):=by show _=_;unfold Cy;simp[he]
    have hd:decide (De (D8 l)=l)=false:=by simpa using he
    rw[hd]
    clear he hd XT TD2;go_upto_region 9 with fail
    have TH:Hid (w6.there w.heap.size 0 (List.toArray ([.bool false, .slice none 0 0, .slice none 0 0, .slice none 0 0, .slice none 0 0]:List Value)).size):=Hu YR.out rfl
    have XF:Hid ((w6.setCells w.heap.size 0 ([.bool false, .slice none 0 0, .slice none 0 0, .slice none 0 0, .slice none 0 0]:List Value)).heap[w.heap.size]? =some (.cells (List.toArray ([.bool false, .slice none 0 0, .slice none 0 0, .slice none 0 0, .slice none 0 0]:List Value)) 30 (0,0))):=Qr YR.out _ rfl
    have HM:Hid ((Tryz.prog.info? 30).map (·.size)=some (List.toArray ([.bool false, .slice none 0 0, .slice none 0 0, .slice none 0 0, .slice none 0 0]:List Value)).size):=(show(Tryz.prog.info? 30).map (·.size)=some 5 by kernel_rfl)
    have AL:Hid ((List.toArray ([.bool false, .slice none 0 0, .slice none 0 0, .slice none 0 0, .slice none 0 0]:List Value)).all (·.oneCell')=true):=by show _=_;simp[Value.oneCell']
    have FIN:Hid (∃y:TV,Value.agg (List.toArray ([.bool false, .slice none 0 0, .slice none 0 0, .slice none 0 0, .slice none 0 0]:List Value))=y.val/\Au 8 (w6.setCells w.heap.size 0 ([.bool false, .slice none 0 0, .slice none 0 0, .slice none 0 0, .slice none 0 0]:List Value)) (fun g=>w.heap.size<=g) y (CF l)/\Below w.heap.size w (w6.setCells w.heap.size 0 ([.bool false, .slice none 0 0, .slice none 0 0, .slice none 0 0, .slice none 0 0]:List Value))):=⟨⟨false, .slice none 0 0, .slice none 0 0, .slice none 0 0, .slice none 0 0⟩,rfl,by unfold CF;rw[BF.out];exact NV false _ _,BW.out.trans ((Ck _ _ _).below (fun g _ hg=>by omega) BW.out.size)⟩
    clear YR BW;go_wp2_with (refine wpList_store_mid rfl 30 _ _ rfl w.heap.size 0 (List.toArray ([.bool false, .slice none 0 0, .slice none 0 0, .slice none 0 0, .slice none 0 0]:List Value)) rfl rfl TH.out HM.out AL.out ?_)
    generalize (w6.setCells w.heap.size 0 ([.bool false, .slice none 0 0, .slice none 0 0, .slice none 0 0, .slice none 0 0]:List Value))=WF at *
    exact⟨rfl,_,UQ Tryz.results18 _ WF w.heap.size 30 _ (0,0) _ rfl XF.out Tryz.underlying30 rfl HM.out,(by obtain⟨y,e,r⟩:=FIN.out;exact⟨y,by rw[←e,BF.out];rfl,r⟩)⟩
end
section
open Go.RowKit

theorem U7 (l:List (Int × Int)) (h:Cy l=false):(CF l).kids.length=0:=by
 rw[CF,if_neg (by rw[h];simp)]
 rfl
theorem Tw (l:List (Int × Int)) (h:Cy l=true):De (CF l)=l:=by
 rw[CF,if_pos h]
 simp only[Cy,Bool.and_eq_true,decide_eq_true_eq] at h
 exact h.2

theorem PY (IB:∀(v:Value) (l:List (Int × Int)) (w:World),Row w v l.length (Ai l)->l.length<=1048576→
   Calls Tryz.prog 17 #[v] w fun e w' =>∃y:TV,e= .returned (.tuple #[y.val, .bool (Cy l)])/\Au 8 w' (fun g=>w.heap.size<=g) y (CF l)/\Below w.heap.size w w')
  (SB:∀(v:Value) (l:List (Int × Int)) (w:World),Row w v l.length (Ai l)->l.length<=1048576→
   Calls Tryz.prog 18 #[v] w fun e w' =>∃y:TV,e= .returned (.tuple #[y.val, .bool (Cy l)])/\Au 8 w' (fun g=>w.heap.size<=g) y (CF l)/\Below w.heap.size w w')
  (TM:∀(x:TV) (T:Tr) (u:World),AA 8 u x T->Calls Tryz.prog 12 #[x.val] u fun e w' =>∃v',e= .returned v' ∧w'.ownsRow u.heap.size 41 2 v' (De T).length (Ai (De T))/\Below u.heap.size u w')
  (v:Value) (bs:List Int) (W0:World) (hc:Sy W0 v bs) :
  Calls Tryz.prog 4 #[v] W0 fun e w' =>e= .returned (.bool true)/\Below W0.heap.size W0 w' :=by
 obtain⟨a0,cap0,hv,hle⟩:=hc.1.len
 by_cases hbig:bs.length<=1048576
 ·have hd:decide (bs.length>1048576)=false:=decide_eq_false (by omega)
  have HD:Hid _:=MQ v bs W0 hc hbig
  have IB' :=AY IB
  have SB' :=AY SB
  have TM' :=AY TM
  clear IB SB TM;obtain⟨ip,hip,hip0,hip1,hip2⟩:=info_parts Tryz.info41
  clear hc;subst hv;go_enter Tryz.func4,Tryz.ntmps4
  go_wp2_with fail;refine(Sn _ _ _ hle _).mono ?_
  rintro e w0 ⟨rfl,hw0⟩
  subst hw0;rw[hd]
  generalize bs.length=bn at *
  go_wp2_with fail;refine Calls.mono HD.out ?_
  rintro e w1 ⟨vl,l,rfl,hl,ow,hb1⟩
  have RL:=AY (fun u (hu:Below w1.heap.size w1 u)=>(Row.of_owns ow).below hu)
  obtain⟨la,lq,hvl,_⟩:=(Row.of_owns ow).len
  subst hvl;have BA:=AY hb1
  have IC:=AY (IB'.out _ l w1 (RL.out _ (Below.refl _ _)) (by omega))
  have HL:=AY hl
  clear ow hb1 HD IB';go_wp2_with fail;refine Calls.mono IC.out ?_
  rintro e w2 ⟨y,rfl,TY,hb2⟩
  obtain⟨ya1,ya2,ya3,ya4,yq1,yq2,yq3,yq4,hyy⟩:=TY.treeF.treeAt.shape
  subst hyy;have TA1:=AY TY.treeF.treeAt
  have B2:=AY hb2
  clear TY hb2 IC;go_upto_region 5 with fail
  have hT0:=AY (U7 l)
  have hT1:=AY (Tw l)
  have SC0:=AY (fun (u:World) (hu:Below w1.heap.size w1 u)=>SB'.out _ l u (RL.out u hu) (by have:=HL.out;omega))
  clear SB';have SC:Hid (∀u:World,Below w1.heap.size w1 u->Calls Tryz.prog 18 #[.slice la l.length lq] u fun e w' =>∃(zl:Bool) (z1 z2 z3 z4:Option Addr × Nat × Nat),e= .returned (.tuple #[.agg #[.bool zl, .slice z1.1 z1.2.1 z1.2.2, .slice z2.1 z2.2.1 z2.2.2, .slice z3.1 z3.2.1 z3.2.2, .slice z4.1 z4.2.1 z4.2.2], .bool (Cy l)])/\Below u.heap.size u w'):=fun u hu=>(SC0.out u hu).mono (fun e w' ⟨y,a,b,c⟩=>by
   obtain⟨zl,z1,z2,z3,z4,rfl⟩:=b.slb
   exact⟨zl,z1,z2,z3,z4,a,c⟩)
  clear SC0;generalize CF l=T at *
  have X1:Hid (Ak (w2.alloc (.cells #[.bool T.leaf, .slice ya1 T.pairs.length yq1, .slice ya2 T.cuts.length yq2, .slice ya3 T.kids.length yq3, .slice ya4 T.buf.length yq4] 30)) w2.heap.size #[.bool T.leaf, .slice ya1 T.pairs.length yq1, .slice ya2 T.cuts.length yq2, .slice ya3 T.kids.length yq3, .slice ya4 T.buf.length yq4]):=Ak.start _ _
  have TA2:Hid (AA 8 (w2.alloc (.cells #[.bool T.leaf, .slice ya1 T.pairs.length yq1, .slice ya2 T.cuts.length yq2, .slice ya3 T.kids.length yq3, .slice ya4 T.buf.length yq4] 30)) (⟨T.leaf, .slice ya1 T.pairs.length yq1, .slice ya2 T.cuts.length yq2, .slice ya3 T.kids.length yq3, .slice ya4 T.buf.length yq4⟩:TV) T):=TA1.out.below (al1 _ _)
  have BV:Hid (Below w1.heap.size w1 (w2.alloc (.cells #[.bool T.leaf, .slice ya1 T.pairs.length yq1, .slice ya2 T.cuts.length yq2, .slice ya3 T.kids.length yq3, .slice ya4 T.buf.length yq4] 30))):=Below.and B2.out (al1 _ _)
  clear TA1 B2;generalize (w2.alloc (.cells #[.bool T.leaf, .slice ya1 T.pairs.length yq1, .slice ya2 T.cuts.length yq2, .slice ya3 T.kids.length yq3, .slice ya4 T.buf.length yq4] 30))=V at *
  generalize w2.heap.size=NT at *
  have KP:Hid (∀u,Below V.heap.size V u->(u.cell? ⟨NT,0,none⟩=some (.bool T.leaf)/\u.cell? ⟨NT,1,none⟩=some (.slice ya1 T.pairs.length yq1)/\u.cell? ⟨NT,2,none⟩=some (.slice ya2 T.cuts.length yq2)/\u.cell? ⟨NT,3,none⟩=some (.slice ya3 T.kids.length yq3)/\u.cell? ⟨NT,4,none⟩=some (.slice ya4 T.buf.length yq4))/\AA 8 u (⟨T.leaf, .slice ya1 T.pairs.length yq1, .slice ya2 T.cuts.length yq2, .slice ya3 T.kids.length yq3, .slice ya4 T.buf.length yq4⟩:TV) T):=fun u hu=>⟨AB (X1.out.step hu),TA2.out.below hu⟩
  have KS:Hid (∀u,Below V.heap.size V u->(u.cell? ⟨NT,0,none⟩=some (.bool T.leaf)/\u.cell? ⟨NT,1,none⟩=some (.slice ya1 T.pairs.length yq1)/\u.cell? ⟨NT,2,none⟩=some (.slice ya2 T.cuts.length yq2)/\u.cell? ⟨NT,3,none⟩=some (.slice ya3 T.kids.length yq3)/\u.cell? ⟨NT,4,none⟩=some (.slice ya4 T.buf.length yq4))/\Hid (Below V.heap.size V u)):=fun u hu=>⟨(KP.out u hu).1,hu⟩
  have KR:Hid (∀u,Below V.heap.size V u->Row u (.slice la l.length lq) l.length (Ai l)):=fun u hu=>RL.out u (Below.and BV.out hu)
  have BW:=AY (fun u (hu:Below V.heap.size V u)=>Below.and BA.out (Below.and BV.out hu))
  have SD:=AY (SC.out V BV.out)
  clear X1 TA2 SC RL BA BV;go_wp2_with fail;refine Calls.mono SD.out ?_
  rintro e w3 ⟨zl,z1,z2,z3,z4,rfl,hb3⟩
  have B3:=AY (Below.and hb3 (al1 w3 (.cells #[.bool zl, .slice z1.1 z1.2.1 z1.2.2, .slice z2.1 z2.2.1 z2.2.2, .slice z3.1 z3.2.1 z3.2.2, .slice z4.1 z4.2.1 z4.2.2] 30)))
  clear hb3 SD;go_upto_region 6 with fail
  generalize (w3.alloc (.cells #[.bool zl, .slice z1.1 z1.2.1 z1.2.2, .slice z2.1 z2.2.1 z2.2.2, .slice z3.1 z3.2.1 z3.2.2, .slice z4.1 z4.2.1 z4.2.2] 30))=U at *
  generalize w3.heap.size=NZ at *
  cases hB:Cy l with
  |false=>
   have P1:=(KP.out U B3.out).1
   rw[hT0.out hB] at P1
   obtain⟨c0,c1,c2,c3,c4⟩:=P1
   clear KP KS KR hT0 hT1;go_wp2;go_ret;exact⟨AG (by simp),BW.out _ B3.out⟩
  |true=>
   have HM:=AY (hT1.out hB)
   have GE:Hid (∀k,Oj T k=Ay l k):=fun k=>by rw[←W4,HM.out]
   have SPLIT:Hid (∀(u:World) (v:Value),Row u v ((CG T 0 12).length+(CG T 12 1000).length) (Ai (CG T 0 12)++Ai (CG T 12 1000))->Row u v l.length (Ai l)):=fun u v h=>by
    have e:=Ke T (lo:=0) (mid:=12) (hi:=1000) (by decide) (by decide)
    rw[NQ,HM.out] at e
    rw[←e,List.length_append,FK]
    exact h
   have ROOM:Hid ((CG T 0 12).length+(CG T 12 1000).length<=maxLen/\((CG T 0 12).length+(CG T 12 1000).length)*16<=140737488355328):=by
    have e:=Ke T (lo:=0) (mid:=12) (hi:=1000) (by decide) (by decide)
    rw[NQ,HM.out] at e
    have h1:=congrArg List.length e
    rw[List.length_append] at h1
    have h2:=HL.out
    exact⟨by unfold maxLen;omega,by omega⟩
   clear hT0 hT1;go_wp2;go_loopw [8] (fun i wr=>∃k:Nat,k<=31/\i= .int .i64 k/\Hid (Below V.heap.size V wr)) (fun i _=>31-(intOf i).toNat)
   case atStart=>exact⟨0,by omega,rfl,B3.out⟩
   case round=>
    obtain⟨k,hk,rfl,BR⟩:=hrel
    by_cases hlt:k<31
    ·obtain⟨⟨c0,c1,c2,c3,c4⟩,TAk⟩:=KP.out _ BR.out
     have HG:=AY (Kz 8 ⟨T.leaf, .slice ya1 T.pairs.length yq1, .slice ya2 T.cuts.length yq2, .slice ya3 T.kids.length yq3, .slice ya4 T.buf.length yq4⟩ T k _ TAk)
     rw[GE.out] at HG
     clear TAk;go_wp2_with fail;refine Calls.mono HG.out ?_
     rintro e u1 ⟨rfl,b1⟩
     have BR1:=AY (Below.and BR.out b1)
     have HQ:=AY (Hk _ l k u1 (KR.out _ BR1.out))
     clear c0 c1 c2 c3 c4 HG b1 BR;generalize (Ay l k).1=g1 at *
     generalize (Ay l k).2=g2 at *
     go_wp2_with fail;refine Calls.mono HQ.out ?_
     rintro e u2 ⟨rfl,b2⟩
     have BR2:=AY (Below.and BR1.out b2)
     clear HQ b2 BR1;go_wp2;go_roundw
     case rel=>exact⟨k+1,by omega,by go_num,BR2.out⟩
     case measure=>simp[intOf];omega
    ·have S0:=KS.out _ BR.out.drew
     have T0:=KS.out _ BR.out
     go_wp2_with fail;go_region_held3 (fun u=>(u.cell? ⟨NT,0,none⟩=some (.bool T.leaf)/\u.cell? ⟨NT,1,none⟩=some (.slice ya1 T.pairs.length yq1)/\u.cell? ⟨NT,2,none⟩=some (.slice ya2 T.cuts.length yq2)/\u.cell? ⟨NT,3,none⟩=some (.slice ya3 T.kids.length yq3)/\u.cell? ⟨NT,4,none⟩=some (.slice ya4 T.buf.length yq4))/\Hid (Below V.heap.size V u)) (assumption) (first
    |(have _:=Q5;go_at_call 11;refine(Iv v15 _ l l _ R15.out (KR.out _ S15.2.out)).mono ?_;rintro e w16 ⟨rfl,b16⟩;rw[decide_eq_true (rfl:l=l)];have S16:=KS.out _ (Below.and S15.2.out b16);clear b16)
    |(go_at_call 11;refine(Iv v11 _ l l _ R11.out (KR.out _ S11.2.out)).mono ?_;rintro e w12 ⟨rfl,b12⟩;rw[decide_eq_true (rfl:l=l)];have S12:=KS.out _ (Below.and S11.2.out b12);clear b12)
    |(have _:=Q3;go_at_call 21;refine(Gs 8 ⟨T.leaf, .slice ya1 T.pairs.length yq1, .slice ya2 T.cuts.length yq2, .slice ya3 T.kids.length yq3, .slice ya4 T.buf.length yq4⟩ T 12 1000 _ (KP.out _ S13.2.out).2).mono ?_;rintro e w14 ⟨v14,rfl,o14,b14⟩;have S14:=KS.out _ (Below.and S13.2.out b14);have R14:=AY (Row.of_owns o14);have O14:=AY (AN O13.out (Chg.of_below (F:=fun _=>False) b14) (fun _ _ h=>h));have Z14:=AY (Nat.le_trans Z13.out b14.size);clear o14 b14 Q3)
    |(go_at_call 21;refine(Gs 8 ⟨T.leaf, .slice ya1 T.pairs.length yq1, .slice ya2 T.cuts.length yq2, .slice ya3 T.kids.length yq3, .slice ya4 T.buf.length yq4⟩ T 0 12 _ (KP.out _ S12.2.out).2).mono ?_;rintro e w13 ⟨v13,rfl,o13,b13⟩;have S13:=KS.out _ (Below.and S12.2.out b13);have O13:=AY o13;have Z13:=AY b13.size;have Y13:=AY S12.2.out.size;have Q3:Hid True:=trivial;clear o13 b13)
    |(go_at_call 12;refine(TM'.out ⟨T.leaf, .slice ya1 T.pairs.length yq1, .slice ya2 T.cuts.length yq2, .slice ya3 T.kids.length yq3, .slice ya4 T.buf.length yq4⟩ T _ (KP.out _ S0.2.out).2).mono ?_;rintro e w11 ⟨v11,rfl,o11,b11⟩;rw[HM.out] at o11;have S11:=KS.out _ (Below.and S0.2.out b11);have R11:=AY (Row.of_owns o11);clear o11 b11)
    |(refine(if_pos (show Region.wanted _ _=true by kernel_rfl)).mpr ?_;refine Rz _ _ _ 26 rfl w12.heap.size 41 ip _ 2 16 Tryz.underlying26 hip hip0 hip1 hip2 rfl (by decide) v13 (CG T 0 12).length (Ai (CG T 0 12)) rfl O14.out v14 (CG T 12 1000).length (Ai (CG T 12 1000)) rfl R14.out (BT _) (Dp _) ROOM.out.1 ROOM.out.2 Z14.out ?_;intro v15 w15 o15 c15 b15;have S15:=KS.out _ ((S14.2.out).trans (b15.mono Y13.out));have R15:Hid (Row w15 v15 l.length (Ai l)):=SPLIT.out w15 v15 (Row.of_owns o15);have Q5:Hid True:=trivial;clear o15 c15 b15))
     go_wp2;go_ret;exact⟨rfl,BW.out _ S16.2.out⟩
 ·have hd:decide (bs.length>1048576)=true:=decide_eq_true (by omega)
  subst hv;go_enter Tryz.func4,Tryz.ntmps4
  go_wp2_with fail;refine(Sn _ _ _ hle _).mono ?_
  rintro e w0 ⟨rfl,hw0⟩
  subst hw0;rw[hd]
  go_wp2;go_ret;exact⟨rfl,Below.refl _ _⟩
end
end Go.Proofs.YtadmomgdacfgpaaGreat
