/-
  Build of the model.
  Contracts of the laws' own functions that hold two trees against each other.
  The laws' own functions that write marks into a list of messages, and look for them.
-/
import Derived.Test.YtebglpllkjgjbaaGreatOfBuild23
import Derived.Test.YtebglpllkjgjbaaGreatOfBuild24
import Derived.Test.YtebglpllkjgjbaaGreatOfBuild3
namespace Go.Proofs.YtebglpllkjgjbaaGreat
set_option maxRecDepth 100000
set_option maxHeartbeats 8000000
section
open Go.RowKit

theorem UI (w:World):Calls Tryz.prog 14 #[] w fun e w' =>e= .returned (.agg #[.bool true, .slice none 0 0, .slice none 0 0, .slice none 0 0, .slice none 0 0])/\Below w.heap.size w w' :=by
 go_enter Tryz.func14,Tryz.ntmps14
 go_wp2;refine bodyPost_ret (v:= .agg #[.bool true, .slice none 0 0, .slice none 0 0, .slice none 0 0, .slice none 0 0]) (by simp[results,Tryz.results14,go_sem]) rfl ⟨rfl,(Below.refl _ _).alloc (Nat.le_refl _) _⟩
theorem WK (args:Array Value) (w:World):(callFunc 15 args).run Tryz.prog w= .ok (.enter 15 args) w:=by go_simp
theorem PW (II:∀(x:TV) (T:Tr) (F:Nat->Prop) (k v:Int) (u:World),Aq 8 u F x T->AQ 8 T<=1048576->Calls Tryz.prog 15 #[x.val, .agg #[.int .i64 1, .int .i64 k, .int .i64 v]] u fun e w' =>∃(y:TV) (N:Nat),e= .returned y.val/\Aq N w' (fun g=>u.heap.size<=g) y (EV T (1,k,v))/\Below u.heap.size u w')
  (TM:∀(x:TV) (T:Tr) (u:World),AH 8 u x T->AQ 8 T<=1048576->Calls Tryz.prog 17 #[x.val] u fun e w' =>∃v',e= .returned v' ∧w'.ownsRow u.heap.size 42 2 v' (DZ T).length (Af (DZ T))/\Below u.heap.size u w')
  (v:Value) (l:List (Int × Int)) (w:World) (h:Row w v l.length (Af l)) (hn:l.length<=1048576) :
  Calls Tryz.prog 5 #[v] w fun e w' =>∃y:TV,e= .returned (.tuple #[y.val, .bool (Db l)])/\Aq 8 w' (fun g=>w.heap.size<=g) y (Bm l)/\Below w.heap.size w w' :=by
 obtain⟨a,b,off,cap,rfl,hcap,hmax,ha,hk,hv⟩:=h.pairs
 unfold maxLen at hmax;have MO:Hid (∀u,Below w.heap.size w u->Calls Tryz.prog 13 #[.slice a l.length cap] u fun e w' =>e= .returned (.bool (Bf l))/\Below u.heap.size u w'):=fun u hu=>CJ _ l u (h.below hu)
 have EQ:Hid (∀u v' ,Below w.heap.size w u->Row u v' (DZ (Ea l)).length (Af (DZ (Ea l)))->Calls Tryz.prog 16 #[v', .slice a l.length cap] u fun e w' =>e= .returned (.bool (decide (DZ (Ea l)=l)))/\Below u.heap.size u w'):=fun u v' hu hr=>Qk v' _ (DZ (Ea l)) l u hr (h.below hu)
 have KV:Hid (∀j u,Below w.heap.size w u->j<l.length->u.cell? ⟨b,off+j*2,none⟩=some (.int .i64 (kOf l j))/\u.cell? ⟨b,off+j*2+1,none⟩=some (.int .i64 (vOf l j))):=fun j u hu hj=>⟨(hu.cell (Aa (hk j hj))).trans (hk j hj),(hu.cell (Aa (hv j hj))).trans (hv j hj)⟩
 have HA:=As ha
 have IJ:=As II
 have TMM:=As TM
 have LT:Hid (l.take l.length=l):=List.take_length
 have L0:Hid (Ea (l.take 0)=nT):=rfl
 have BS:Hid (∀j,j<l.length->EV (Ea (l.take j)) (1,kOf l j,vOf l j)=Ea (l.take (j+1))):=fun j hj=>NP l j hj
 have B1:Hid (Below w.heap.size w (w.alloc (.cells #[.bool false, .slice none 0 0, .slice none 0 0, .slice none 0 0, .slice none 0 0] 29))):=(Below.refl _ _).alloc (Nat.le_refl _) _
 have Y1:Hid ((w.alloc (.cells #[.bool false, .slice none 0 0, .slice none 0 0, .slice none 0 0, .slice none 0 0] 29)).heap[w.heap.size]? =some (.cells #[.bool false, .slice none 0 0, .slice none 0 0, .slice none 0 0, .slice none 0 0] 29 (0,0))):=heap_alloc_new w _
 have zw:Hid (w.heap.size<(w.alloc (.cells #[.bool false, .slice none 0 0, .slice none 0 0, .slice none 0 0, .slice none 0 0] 29)).heap.size):=by show _<_;simp
 have HN:=As hn
 clear h hk hv ha II TM hn;generalize hL:l.length=L at *
 have HL:=As hL
 clear hL;go_enter Tryz.func5,Tryz.ntmps5
 go_wp2_with fail;refine(MO.out _ B1.out).mono ?_
 rintro e w1 ⟨rfl,b1⟩
 replace Y1:=As (stepB Y1.out b1)
 replace B1:=As (Below.and B1.out b1)
 replace zw:=As (Nat.lt_of_lt_of_le zw.out b1.size)
 clear b1 MO
 cases hm:Bf l
 ·have BF:Hid (Db l=false):=by show _=_;unfold Db;rw[hm];rfl
  clear hm;go_upto_region 2 with fail
  have TH:Hid (w1.there w.heap.size 0 (List.toArray ([.bool false, .slice none 0 0, .slice none 0 0, .slice none 0 0, .slice none 0 0]:List Value)).size):=Gh Y1.out rfl
  have XF:Hid ((w1.setCells w.heap.size 0 ([.bool false, .slice none 0 0, .slice none 0 0, .slice none 0 0, .slice none 0 0]:List Value)).heap[w.heap.size]? =some (.cells (List.toArray ([.bool false, .slice none 0 0, .slice none 0 0, .slice none 0 0, .slice none 0 0]:List Value)) 29 (0,0))):=My Y1.out _ rfl
  have HM:Hid ((Tryz.prog.info? 29).map (·.size)=some (List.toArray ([.bool false, .slice none 0 0, .slice none 0 0, .slice none 0 0, .slice none 0 0]:List Value)).size):=(show(Tryz.prog.info? 29).map (·.size)=some 5 by kernel_rfl)
  have AL:Hid ((List.toArray ([.bool false, .slice none 0 0, .slice none 0 0, .slice none 0 0, .slice none 0 0]:List Value)).all (·.oneCell')=true):=by show _=_;simp[Value.oneCell']
  have FIN:Hid (∃y:TV,Value.agg (List.toArray ([.bool false, .slice none 0 0, .slice none 0 0, .slice none 0 0, .slice none 0 0]:List Value))=y.val/\Aq 8 (w1.setCells w.heap.size 0 ([.bool false, .slice none 0 0, .slice none 0 0, .slice none 0 0, .slice none 0 0]:List Value)) (fun g=>w.heap.size<=g) y (Bm l)/\Below w.heap.size w (w1.setCells w.heap.size 0 ([.bool false, .slice none 0 0, .slice none 0 0, .slice none 0 0, .slice none 0 0]:List Value))):=⟨⟨false, .slice none 0 0, .slice none 0 0, .slice none 0 0, .slice none 0 0⟩,rfl,by unfold Bm;rw[BF.out];exact Oj false _ _,B1.out.trans ((Be _ _ _).below (fun g _ hg=>by omega) B1.out.size)⟩
  clear Y1 B1;go_wp2_with (refine wpList_store_mid rfl 29 _ _ rfl w.heap.size 0 (List.toArray ([.bool false, .slice none 0 0, .slice none 0 0, .slice none 0 0, .slice none 0 0]:List Value)) rfl rfl TH.out HM.out AL.out ?_)
  generalize (w1.setCells w.heap.size 0 ([.bool false, .slice none 0 0, .slice none 0 0, .slice none 0 0, .slice none 0 0]:List Value))=WF at *
  exact⟨rfl,_,Vv Tryz.results5 _ WF w.heap.size 29 _ (0,0) _ rfl XF.out Tryz.underlying29 rfl HM.out,(by obtain⟨y,e,r⟩:=FIN.out;exact⟨y,by rw[←e,BF.out];rfl,r⟩)⟩
 have HM1:=As hm
 clear hm;go_wp2_with fail;refine(UI _).mono ?_
 rintro e w2 ⟨rfl,b2⟩
 have na:Below w2.heap.size w2 (w2.alloc (.cells #[.bool true, .slice none 0 0, .slice none 0 0, .slice none 0 0, .slice none 0 0] 29)):=(Below.refl _ _).alloc (Nat.le_refl _) _
 have XN:Hid ((w2.alloc (.cells #[.bool true, .slice none 0 0, .slice none 0 0, .slice none 0 0, .slice none 0 0] 29)).heap[w2.heap.size]? =some (.cells #[.bool true, .slice none 0 0, .slice none 0 0, .slice none 0 0, .slice none 0 0] 29 (0,0))):=heap_alloc_new w2 _
 replace Y1:=As (stepB (stepB Y1.out b2) na)
 replace B1:=As (Below.and (Below.and B1.out b2) na)
 have zn:Hid (w.heap.size<w2.heap.size):=Nat.lt_of_lt_of_le zw.out b2.size
 have zm:Hid (w2.heap.size<(w2.alloc (.cells #[.bool true, .slice none 0 0, .slice none 0 0, .slice none 0 0, .slice none 0 0] 29)).heap.size):=by show _<_;simp
 clear b2 na zw;go_upto_region 4 with fail
 generalize w2.alloc (.cells #[.bool true, .slice none 0 0, .slice none 0 0, .slice none 0 0, .slice none 0 0] 29)=W at *
 generalize w2.heap.size=NT at *
 go_wp2;go_loopw [5] (fun i wr=>∃(j:Nat) (yl:Bool) (y1 y2 y3 y4:Option Addr × Nat × Nat),i= .int .i64 j/\j<=L/\Hid (Aq 8 wr (fun g=>NT<g) (⟨yl, .slice y1.1 y1.2.1 y1.2.2, .slice y2.1 y2.2.1 y2.2.2, .slice y3.1 y3.2.1 y3.2.2, .slice y4.1 y4.2.1 y4.2.2⟩:TV) (Ea (l.take j)))/\Hid (wr.heap[NT]? =some (.cells #[.bool yl, .slice y1.1 y1.2.1 y1.2.2, .slice y2.1 y2.2.1 y2.2.2, .slice y3.1 y3.2.1 y3.2.2, .slice y4.1 y4.2.1 y4.2.2] 29 (0,0)))/\Hid (wr.heap[w.heap.size]? =some (.cells #[.bool false, .slice none 0 0, .slice none 0 0, .slice none 0 0, .slice none 0 0] 29 (0,0)))/\Hid (Below w.heap.size w wr)/\Hid (NT<wr.heap.size))
  (fun i _=>L-(intOf i).toNat)
 case atStart=>exact⟨0,true,(none,0,0),(none,0,0),(none,0,0),(none,0,0),rfl,Nat.zero_le _,by show Aq _ _ _ _ _;rw[L0.out];exact Oj true _ _,XN.out,Y1.out,B1.out,zm.out⟩
 case round=>
  obtain⟨j,yl,y1,y2,y3,y4,rfl,hj,TD,XT,YR,BW,ZN⟩:=hrel
  clear XN Y1 B1 zm;by_cases hlt:j<L
  ·have hal:=HA.out (by omega)
   subst hal;obtain⟨d0,d1⟩:=KV.out j wr BW.out hlt
   have hj1:(j:Int)<(L:Int):=by omega
   have bs:=As (BS.out j hlt)
   have OK1:=As (Hf (l.take j))
   clear d0 d1;go_upto_region 7 with fail
   have KE:Hid (∀u,Below wr.heap.size wr u->(fun u:World=>u.cell? ⟨b,off+j*2,none⟩=some (.int .i64 (kOf l j))/\u.cell? ⟨b,off+j*2+1,none⟩=some (.int .i64 (vOf l j))) u):=fun u hu=>KV.out j u (Below.and BW.out hu) hlt
   have RLL:Hid (Below wr.heap.size wr wr.drew):=(Below.refl _ _).drew
   refine wp_region_held_drew (S:=(fun u:World=>u.cell? ⟨b,off+j*2,none⟩=some (.int .i64 (kOf l j))/\u.cell? ⟨b,off+j*2+1,none⟩=some (.int .i64 (vOf l j)))) (by kernel_rfl) (KE.out _ RLL.out) (fun hH=> ?_)
   refine wpAnyH_take (i:=1) (oi:=⟨_,_,_,_,_,_⟩) (v:= ?_) rfl (by kernel_rfl) (by kernel_rfl) (by kernel_rfl) (fun _ _ _ h=>h) (Or.inl ⟨by rfl, ?_⟩) (by assumption) ?_
   rotate_left
   ·((intro w' hSw;obtain⟨s0,s1⟩:=hSw;go_simp);(try with_reducible rfl))
   try simp only[Act.put,List.setIfInBounds_toArray,List.set_cons_zero,List.set_cons_succ]
   refine wpAnyH_take (i:=2) (oi:=⟨_,_,_,_,_,_⟩) (v:= ?_) rfl (by kernel_rfl) (by kernel_rfl) (by kernel_rfl) (fun _ _ _ h=>h) (Or.inl ⟨by rfl, ?_⟩) (by assumption) ?_
   rotate_left
   ·((intro w' hSw;obtain⟨s0,s1⟩:=hSw;go_simp);(try with_reducible rfl))
   try simp only[Act.put,List.setIfInBounds_toArray,List.set_cons_zero,List.set_cons_succ]
   refine wpAnyH_take (i:=3) (oi:=⟨_,_,_,_,_,_⟩) (v:= ?_) rfl (by kernel_rfl) (by kernel_rfl) (by kernel_rfl) (fun _ _ _ h=>h) (Or.inl ⟨by rfl, ?_⟩) (by assumption) ?_
   rotate_left
   ·((intro w' hSw;obtain⟨s0,s1⟩:=hSw;go_simp);(try with_reducible rfl))
   try simp only[Act.put,List.setIfInBounds_toArray,List.set_cons_zero,List.set_cons_succ]
   refine wpAnyH_take (i:=4) (oi:=⟨_,_,_,_,_,_⟩) (v:= ?_) rfl (by kernel_rfl) (by kernel_rfl) (by kernel_rfl) (fun _ _ _ h=>h) (Or.inl ⟨by rfl, ?_⟩) (by assumption) ?_
   rotate_left
   ·((intro w' hSw;obtain⟨s0,s1⟩:=hSw;go_simp);(try with_reducible rfl))
   try simp only[Act.put,List.setIfInBounds_toArray,List.set_cons_zero,List.set_cons_succ]
   refine wpAnyH_take (i:=5) (oi:=⟨_,_,_,_,_,_⟩) (v:= ?_) rfl (by kernel_rfl) (by kernel_rfl) (by kernel_rfl) (fun _ _ _ h=>h) (Or.inl ⟨by rfl, ?_⟩) (by assumption) ?_
   rotate_left
   ·((intro w' hSw;obtain⟨s0,s1⟩:=hSw;go_simp);(try with_reducible rfl))
   try simp only[Act.put,List.setIfInBounds_toArray,List.set_cons_zero,List.set_cons_succ]
   refine wpAnyH_take (i:=6) (oi:=⟨_,_,_,_,_,_⟩) (v:= ?_) rfl (by kernel_rfl) (by kernel_rfl) (by kernel_rfl) (fun _ _ _ h=>h) (Or.inl ⟨by rfl, ?_⟩) (by assumption) ?_
   rotate_left
   ·((intro w' hSw;obtain⟨s0,s1⟩:=hSw;go_simp);(try with_reducible rfl))
   try simp only[Act.put,List.setIfInBounds_toArray,List.set_cons_zero,List.set_cons_succ]
   refine wpAnyH_take (i:=7) (oi:=⟨_,_,_,_,_,_⟩) (v:= ?_) rfl (by kernel_rfl) (by kernel_rfl) (by kernel_rfl) (fun _ _ _ h=>h) (Or.inl ⟨by rfl, ?_⟩) (by assumption) ?_
   rotate_left
   ·((intro w' hSw;obtain⟨s0,s1⟩:=hSw;go_simp);(try with_reducible rfl))
   try simp only[Act.put,List.setIfInBounds_toArray,List.set_cons_zero,List.set_cons_succ]
   refine wpAnyH_take (i:=8) (oi:=⟨_,_,_,_,_,_⟩) (v:= ?_) rfl (by kernel_rfl) (by kernel_rfl) (by kernel_rfl) (fun _ _ _ h=>h) (Or.inl ⟨by rfl, ?_⟩) (by assumption) ?_
   rotate_left
   ·((intro w' hSw;obtain⟨s0,s1⟩:=hSw;go_simp);(try with_reducible rfl))
   try simp only[Act.put,List.setIfInBounds_toArray,List.set_cons_zero,List.set_cons_succ]
   refine wpAnyH_take (i:=9) (oi:=⟨_,_,_,_,_,_⟩) (v:= ?_) rfl (by kernel_rfl) (by kernel_rfl) (by kernel_rfl) (fun _ _ _ h=>h) (Or.inl ⟨by rfl, ?_⟩) (by assumption) ?_
   rotate_left
   ·((intro w' hSw;obtain⟨s0,s1⟩:=hSw;go_simp);(try with_reducible rfl))
   try simp only[Act.put,List.setIfInBounds_toArray,List.set_cons_zero,List.set_cons_succ]
   refine wpAnyH_take (i:=10) (oi:=⟨_,_,_,_,_,_⟩) (v:= ?_) rfl (by kernel_rfl) (by kernel_rfl) (by kernel_rfl) (fun _ _ _ h=>h) (Or.inl ⟨by rfl, ?_⟩) (by assumption) ?_
   rotate_left
   ·((intro w' hSw;obtain⟨s0,s1⟩:=hSw;go_simp);(try with_reducible rfl))
   try simp only[Act.put,List.setIfInBounds_toArray,List.set_cons_zero,List.set_cons_succ]
   refine wpAnyH_take (i:=11) (oi:=⟨_,_,_,_,_,_⟩) (v:= ?_) rfl (by kernel_rfl) (by kernel_rfl) (by kernel_rfl) (fun _ _ _ h=>h) (Or.inl ⟨by rfl, ?_⟩) (by assumption) ?_
   rotate_left
   ·((intro w' hSw;obtain⟨s0,s1⟩:=hSw;go_simp);(try with_reducible rfl))
   try simp only[Act.put,List.setIfInBounds_toArray,List.set_cons_zero,List.set_cons_succ]
   have RG0:Hid (wr.drew.rangeAt NT 0 ([.bool yl, .slice y1.1 y1.2.1 y1.2.2, .slice y2.1 y2.2.1 y2.2.2, .slice y3.1 y3.2.1 y3.2.2, .slice y4.1 y4.2.1 y4.2.2]:List Value)):=FJ (stepB XT.out RLL.out)
   refine wpAnyH_ready (rs:=[0]) (by kernel_rfl) (by simp) ?_
   refine AllReadyH.cons (o:=⟨_,_,_,_,_,_⟩) rfl (fun K hK=> ?_) AllReadyH.nil
   refine(if_pos (show Region.wanted _ _=true by kernel_rfl)).mpr ?_
   refine wp_load_mid 29 _ rfl NT 0 rfl ([.bool yl, .slice y1.1 y1.2.1 y1.2.2, .slice y2.1 y2.2.1 y2.2.2, .slice y3.1 y3.2.1 y3.2.2, .slice y4.1 y4.2.1 y4.2.2]:List Value) _ RG0.out Tryz.underlying29 rfl (by kernel_rfl) ?_
   refine hK.out _ _ (KE.out _ RLL.out) (fun hH2=> ?_)
   clear hK K hH;have hH:=hH2
   clear hH2 RG0;try simp only[Act.put,List.setIfInBounds_toArray,List.set_cons_zero,List.set_cons_succ]
   have C:=As (IJ.out (⟨yl, .slice y1.1 y1.2.1 y1.2.2, .slice y2.1 y2.2.1 y2.2.2, .slice y3.1 y3.2.1 y3.2.2, .slice y4.1 y4.2.1 y4.2.2⟩:TV) (Ea (l.take j)) _ (kOf l j) (vOf l j) wr.drew (TD.out.below RLL.out) (by have:=sz8 OK1.out;omega))
   refine wpAnyH_ready (rs:=[12]) (by kernel_rfl) (by simp) ?_
   refine AllReadyH.cons (o:=⟨_,_,_,_,_,_⟩) rfl (fun K hK=> ?_) AllReadyH.nil
   refine(if_pos (show Region.wanted _ _=true by kernel_rfl)).mpr ?_
   refine K9 15 [.tmp 17, .tmp 28] #[29,44] rfl WK _ rfl C.out ?_
   rintro e w3 ⟨z,NN,rfl,td,b3'⟩
   have b3:=Below.and RLL.out b3'
   replace td:=td.mono (G:=fun g=>wr.heap.size<=g) (fun g hg=>Nat.le_trans RLL.out.size hg)
   clear b3';rw[bs.out] at td
   replace td:=ok8 td (Hf _)
   obtain⟨zl,z1,z2,z3,z4,hz⟩:=td.slb
   subst hz;refine⟨_,rfl, ?_⟩
   have S3:=As (KE.out _ b3)
   refine hK.out _ _ S3.out (fun hH2=> ?_)
   clear hK K hH;have hH:=hH2
   clear hH2 S3;try simp only[Act.put,List.setIfInBounds_toArray,List.set_cons_zero,List.set_cons_succ]
   replace XT:=As (stepB XT.out b3)
   replace YR:=As (stepB YR.out b3)
   replace BW:=As (Below.and BW.out b3)
   have TD3:=As (td.mono (G:=fun g=>NT<g) (fun g hg=>Nat.lt_of_lt_of_le ZN.out hg))
   replace ZN:=As (Nat.lt_of_lt_of_le ZN.out b3.size)
   clear TD td b3 C;have TH:Hid (w3.there NT 0 (List.toArray ([.bool zl, .slice z1.1 z1.2.1 z1.2.2, .slice z2.1 z2.2.1 z2.2.2, .slice z3.1 z3.2.1 z3.2.2, .slice z4.1 z4.2.1 z4.2.2]:List Value)).size):=Gh XT.out rfl
   have HM:Hid ((Tryz.prog.info? 29).map (·.size)=some (List.toArray ([.bool zl, .slice z1.1 z1.2.1 z1.2.2, .slice z2.1 z2.2.1 z2.2.2, .slice z3.1 z3.2.1 z3.2.2, .slice z4.1 z4.2.1 z4.2.2]:List Value)).size):=(show(Tryz.prog.info? 29).map (·.size)=some 5 by kernel_rfl)
   have AL:Hid ((List.toArray ([.bool zl, .slice z1.1 z1.2.1 z1.2.2, .slice z2.1 z2.2.1 z2.2.2, .slice z3.1 z3.2.1 z3.2.2, .slice z4.1 z4.2.1 z4.2.2]:List Value)).all (·.oneCell')=true):=by show _=_;simp[Value.oneCell']
   have XT4:Hid ((w3.setCells NT 0 ([.bool zl, .slice z1.1 z1.2.1 z1.2.2, .slice z2.1 z2.2.1 z2.2.2, .slice z3.1 z3.2.1 z3.2.2, .slice z4.1 z4.2.1 z4.2.2]:List Value)).heap[NT]? =some (.cells (List.toArray ([.bool zl, .slice z1.1 z1.2.1 z1.2.2, .slice z2.1 z2.2.1 z2.2.2, .slice z3.1 z3.2.1 z3.2.2, .slice z4.1 z4.2.1 z4.2.2]:List Value)) 29 (0,0))):=My XT.out _ rfl
   have GC:=Be w3 NT ([.bool zl, .slice z1.1 z1.2.1 z1.2.2, .slice z2.1 z2.2.1 z2.2.2, .slice z3.1 z3.2.1 z3.2.2, .slice z4.1 z4.2.1 z4.2.2]:List Value)
   have YR4:=As (DO (F:=fun g=>g=NT) YR.out GC (by have:=zn.out;omega))
   have BW4:=As (BW.out.trans (GC.below (fun g _ e=>by have:=zn.out;omega) BW.out.size))
   have TD4:=As (TD3.out.chg GC (fun g hg e=>by omega))
   have ZN4:Hid (NT<(w3.setCells NT 0 ([.bool zl, .slice z1.1 z1.2.1 z1.2.2, .slice z2.1 z2.2.1 z2.2.2, .slice z3.1 z3.2.1 z3.2.2, .slice z4.1 z4.2.1 z4.2.2]:List Value)).heap.size):=Nat.lt_of_lt_of_le ZN.out GC.size
   clear GC XT YR BW TD3 ZN;refine wpAnyH_ready (rs:=[13]) (by kernel_rfl) (by simp) ?_
   refine AllReadyH.cons (o:=⟨_,_,_,_,_,_⟩) rfl (fun K hK=> ?_) AllReadyH.nil
   refine(if_pos (show Region.wanted _ _=true by kernel_rfl)).mpr ?_
   refine wp_store_mid 29 _ _ rfl NT 0 (List.toArray ([.bool zl, .slice z1.1 z1.2.1 z1.2.2, .slice z2.1 z2.2.1 z2.2.2, .slice z3.1 z3.2.1 z3.2.2, .slice z4.1 z4.2.1 z4.2.2]:List Value)) rfl rfl TH.out HM.out AL.out ?_
   have S4:Hid ((fun u:World=>u.cell? ⟨b,off+j*2,none⟩=some (.int .i64 (kOf l j))/\u.cell? ⟨b,off+j*2+1,none⟩=some (.int .i64 (vOf l j))) (w3.setCells NT 0 ([.bool zl, .slice z1.1 z1.2.1 z1.2.2, .slice z2.1 z2.2.1 z2.2.2, .slice z3.1 z3.2.1 z3.2.2, .slice z4.1 z4.2.1 z4.2.2]:List Value))):=KV.out j _ BW4.out hlt
   refine hK.out _ _ S4.out (fun hH2=> ?_)
   clear hK K hH;try simp only[Act.put]
   refine wpAnyH_done (by kernel_rfl) ?_ _
   clear hH2 S4;generalize w3.setCells NT 0 ([.bool zl, .slice z1.1 z1.2.1 z1.2.2, .slice z2.1 z2.2.1 z2.2.2, .slice z3.1 z3.2.1 z3.2.2, .slice z4.1 z4.2.1 z4.2.2]:List Value)=V4 at *
   go_wp2;go_roundw
   case rel=>exact⟨j+1,zl,z1,z2,z3,z4,by go_num,by omega,TD4.out,XT4.out,YR4.out,BW4.out,ZN4.out⟩
   case measure=>simp[intOf];omega
  ·have hjL:j=L:=by omega
   have TD2:Hid (Aq 8 wr (fun g=>NT<g) (⟨yl, .slice y1.1 y1.2.1 y1.2.2, .slice y2.1 y2.2.1 y2.2.2, .slice y3.1 y3.2.1 y3.2.2, .slice y4.1 y4.2.1 y4.2.2⟩:TV) (Ea l)):=by have:=TD.out;rw[hjL,LT.out] at this;exact this
   have hj2:¬(j:Int)<(L:Int):=by omega
   clear TD KV HA BS;have c1:=fun i=>Ae (j:=i) XT.out
   have OK2:=As (Hf l)
   have TA:=As (TMM.out (⟨yl, .slice y1.1 y1.2.1 y1.2.2, .slice y2.1 y2.2.1 y2.2.2, .slice y3.1 y3.2.1 y3.2.2, .slice y4.1 y4.2.1 y4.2.2⟩:TV) (Ea l) wr TD2.out.treeF.treeAt (by have:=sz8 OK2.out;omega))
   go_wp2_with fail;refine TA.out.mono ?_
   rintro e w5 ⟨v5,rfl,o5,b5⟩
   have E5:=As (EQ.out w5 v5 (Below.and BW.out b5) (Row.of_owns o5))
   replace XT:=As (stepB XT.out b5)
   replace YR:=As (stepB YR.out b5)
   replace BW:=As (Below.and BW.out b5)
   replace TD2:=As (TD2.out.below b5)
   clear b5 o5 c1 TA;go_wp2_with fail;refine E5.out.mono ?_
   rintro e w6 ⟨rfl,b6⟩
   replace XT:=As (stepB XT.out b6)
   replace YR:=As (stepB YR.out b6)
   replace BW:=As (Below.and BW.out b6)
   replace TD2:=As (TD2.out.below b6)
   clear b6 E5 EQ;by_cases he:DZ (Ea l)=l
   ·have BF:Hid (Db l=true):=by show _=_;unfold Db;rw[HM1.out];simpa using he
    have hd:decide (DZ (Ea l)=l)=true:=by simpa using he
    rw[hd]
    clear he hd;have RG:Hid (w6.rangeAt NT 0 ([.bool yl, .slice y1.1 y1.2.1 y1.2.2, .slice y2.1 y2.2.1 y2.2.2, .slice y3.1 y3.2.1 y3.2.2, .slice y4.1 y4.2.1 y4.2.2]:List Value)):=FJ XT.out
    have TH:Hid (w6.there w.heap.size 0 (List.toArray ([.bool yl, .slice y1.1 y1.2.1 y1.2.2, .slice y2.1 y2.2.1 y2.2.2, .slice y3.1 y3.2.1 y3.2.2, .slice y4.1 y4.2.1 y4.2.2]:List Value)).size):=Gh YR.out rfl
    have XF:Hid ((w6.setCells w.heap.size 0 ([.bool yl, .slice y1.1 y1.2.1 y1.2.2, .slice y2.1 y2.2.1 y2.2.2, .slice y3.1 y3.2.1 y3.2.2, .slice y4.1 y4.2.1 y4.2.2]:List Value)).heap[w.heap.size]? =some (.cells (List.toArray ([.bool yl, .slice y1.1 y1.2.1 y1.2.2, .slice y2.1 y2.2.1 y2.2.2, .slice y3.1 y3.2.1 y3.2.2, .slice y4.1 y4.2.1 y4.2.2]:List Value)) 29 (0,0))):=My YR.out _ rfl
    have HM:Hid ((Tryz.prog.info? 29).map (·.size)=some (List.toArray ([.bool yl, .slice y1.1 y1.2.1 y1.2.2, .slice y2.1 y2.2.1 y2.2.2, .slice y3.1 y3.2.1 y3.2.2, .slice y4.1 y4.2.1 y4.2.2]:List Value)).size):=(show(Tryz.prog.info? 29).map (·.size)=some 5 by kernel_rfl)
    have HM0:Hid ((Tryz.prog.info? 29).map (·.size)=some (List.length ([.bool yl, .slice y1.1 y1.2.1 y1.2.2, .slice y2.1 y2.2.1 y2.2.2, .slice y3.1 y3.2.1 y3.2.2, .slice y4.1 y4.2.1 y4.2.2]:List Value))):=(show(Tryz.prog.info? 29).map (·.size)=some 5 by kernel_rfl)
    have AL:Hid ((List.toArray ([.bool yl, .slice y1.1 y1.2.1 y1.2.2, .slice y2.1 y2.2.1 y2.2.2, .slice y3.1 y3.2.1 y3.2.2, .slice y4.1 y4.2.1 y4.2.2]:List Value)).all (·.oneCell')=true):=by show _=_;simp[Value.oneCell']
    have FIN:Hid (∃y:TV,Value.agg (List.toArray ([.bool yl, .slice y1.1 y1.2.1 y1.2.2, .slice y2.1 y2.2.1 y2.2.2, .slice y3.1 y3.2.1 y3.2.2, .slice y4.1 y4.2.1 y4.2.2]:List Value))=y.val/\Aq 8 (w6.setCells w.heap.size 0 ([.bool yl, .slice y1.1 y1.2.1 y1.2.2, .slice y2.1 y2.2.1 y2.2.2, .slice y3.1 y3.2.1 y3.2.2, .slice y4.1 y4.2.1 y4.2.2]:List Value)) (fun g=>w.heap.size<=g) y (Bm l)/\Below w.heap.size w (w6.setCells w.heap.size 0 ([.bool yl, .slice y1.1 y1.2.1 y1.2.2, .slice y2.1 y2.2.1 y2.2.2, .slice y3.1 y3.2.1 y3.2.2, .slice y4.1 y4.2.1 y4.2.2]:List Value))):=⟨(⟨yl, .slice y1.1 y1.2.1 y1.2.2, .slice y2.1 y2.2.1 y2.2.2, .slice y3.1 y3.2.1 y3.2.2, .slice y4.1 y4.2.1 y4.2.2⟩:TV),rfl,by unfold Bm;rw[BF.out];exact(TD2.out.chg (Be _ _ _) (fun g hg e=>by have:=zn.out;omega)).mono (fun g hg=>by have:=zn.out;omega),BW.out.trans ((Be _ _ _).below (fun g _ hg=>by omega) BW.out.size)⟩
    clear XT YR BW TD2;go_wp2_with (first|(refine wpList_load_mid rfl 29 _ rfl NT 0 rfl ([.bool yl, .slice y1.1 y1.2.1 y1.2.2, .slice y2.1 y2.2.1 y2.2.2, .slice y3.1 y3.2.1 y3.2.2, .slice y4.1 y4.2.1 y4.2.2]:List Value) _ RG.out Tryz.underlying29 rfl HM0.out ?_)|(refine wpList_store_mid rfl 29 _ _ rfl w.heap.size 0 (List.toArray ([.bool yl, .slice y1.1 y1.2.1 y1.2.2, .slice y2.1 y2.2.1 y2.2.2, .slice y3.1 y3.2.1 y3.2.2, .slice y4.1 y4.2.1 y4.2.2]:List Value)) rfl rfl TH.out HM.out AL.out ?_))
    generalize w6.setCells w.heap.size 0 ([.bool yl, .slice y1.1 y1.2.1 y1.2.2, .slice y2.1 y2.2.1 y2.2.2, .slice y3.1 y3.2.1 y3.2.2, .slice y4.1 y4.2.1 y4.2.2]:List Value)=WF at *
    exact⟨rfl,_,Vv Tryz.results5 _ WF w.heap.size 29 _ (0,0) _ rfl XF.out Tryz.underlying29 rfl HM.out,(by obtain⟨y,e,r⟩:=FIN.out;exact⟨y,by rw[←e,BF.out];rfl,r⟩)⟩
   ·have BF:Hid (Db l=false):=by show _=_;unfold Db;simp[he]
    have hd:decide (DZ (Ea l)=l)=false:=by simpa using he
    rw[hd]
    clear he hd XT TD2;go_upto_region 9 with fail
    have TH:Hid (w6.there w.heap.size 0 (List.toArray ([.bool false, .slice none 0 0, .slice none 0 0, .slice none 0 0, .slice none 0 0]:List Value)).size):=Gh YR.out rfl
    have XF:Hid ((w6.setCells w.heap.size 0 ([.bool false, .slice none 0 0, .slice none 0 0, .slice none 0 0, .slice none 0 0]:List Value)).heap[w.heap.size]? =some (.cells (List.toArray ([.bool false, .slice none 0 0, .slice none 0 0, .slice none 0 0, .slice none 0 0]:List Value)) 29 (0,0))):=My YR.out _ rfl
    have HM:Hid ((Tryz.prog.info? 29).map (·.size)=some (List.toArray ([.bool false, .slice none 0 0, .slice none 0 0, .slice none 0 0, .slice none 0 0]:List Value)).size):=(show(Tryz.prog.info? 29).map (·.size)=some 5 by kernel_rfl)
    have AL:Hid ((List.toArray ([.bool false, .slice none 0 0, .slice none 0 0, .slice none 0 0, .slice none 0 0]:List Value)).all (·.oneCell')=true):=by show _=_;simp[Value.oneCell']
    have FIN:Hid (∃y:TV,Value.agg (List.toArray ([.bool false, .slice none 0 0, .slice none 0 0, .slice none 0 0, .slice none 0 0]:List Value))=y.val/\Aq 8 (w6.setCells w.heap.size 0 ([.bool false, .slice none 0 0, .slice none 0 0, .slice none 0 0, .slice none 0 0]:List Value)) (fun g=>w.heap.size<=g) y (Bm l)/\Below w.heap.size w (w6.setCells w.heap.size 0 ([.bool false, .slice none 0 0, .slice none 0 0, .slice none 0 0, .slice none 0 0]:List Value))):=⟨⟨false, .slice none 0 0, .slice none 0 0, .slice none 0 0, .slice none 0 0⟩,rfl,by unfold Bm;rw[BF.out];exact Oj false _ _,BW.out.trans ((Be _ _ _).below (fun g _ hg=>by omega) BW.out.size)⟩
    clear YR BW;go_wp2_with (refine wpList_store_mid rfl 29 _ _ rfl w.heap.size 0 (List.toArray ([.bool false, .slice none 0 0, .slice none 0 0, .slice none 0 0, .slice none 0 0]:List Value)) rfl rfl TH.out HM.out AL.out ?_)
    generalize (w6.setCells w.heap.size 0 ([.bool false, .slice none 0 0, .slice none 0 0, .slice none 0 0, .slice none 0 0]:List Value))=WF at *
    exact⟨rfl,_,Vv Tryz.results5 _ WF w.heap.size 29 _ (0,0) _ rfl XF.out Tryz.underlying29 rfl HM.out,(by obtain⟨y,e,r⟩:=FIN.out;exact⟨y,by rw[←e,BF.out];rfl,r⟩)⟩
end
section
open Go.RowKit

theorem Yo {l1 l2:List Int} (hl:l1.length=l2.length) (h:∀i,i<l1.length->iAt l1 i=iAt l2 i):l1=l2:=by
 apply List.ext_getElem hl
 intro i h1 h2;have:=h i h1
 simpa[iAt,List.getD,h1,h2] using this

theorem Ry (v1 v2:Value) (l1 l2:List Int) (w:World) (h1:Row w v1 l1.length (Ac l1)) (h2:Row w v2 l2.length (Ac l2)) :
  Calls Tryz.prog 24 #[v1,v2] w fun e w' =>e= .returned (.bool (decide (l1=l2)))/\Below w.heap.size w w' :=by
 obtain⟨a,b,off,cap,rfl,hcap,hmax,ha,hk⟩:=h1.ints
 obtain⟨a2,b2,off2,cap2,rfl,hcap2,hmax2,ha2,hk2⟩:=h2.ints
 unfold maxLen at hmax hmax2;by_cases hl:l1.length=l2.length
 ·have hne:((l1.length:Int) != (l2.length:Int))=false:=by rw[bne_eq_false_iff_eq];omega
  have HL:Hid (l1.length=l2.length):=hl
  have hl2:l1.length<=l2.length:=by omega
  clear hl;go_enter Tryz.func24,Tryz.ntmps24
  go_wp2;go_loopw [5] (fun i wr=>∃k:Nat,k<=l1.length/\i= .int .i64 k/\Hid (∀i,i<k->iAt l1 i=iAt l2 i)/\Below w.heap.size w wr)
   (fun i _=>l1.length-(intOf i).toNat)
  case atStart=>exact⟨0,Nat.zero_le _,rfl,fun i hi=>absurd hi (Nat.not_lt_zero _),Below.refl _ _⟩
  case round=>
   obtain⟨k,hkl,rfl,ALL,hb⟩:=hrel
   by_cases hlt:k<l1.length
   ·have hal:=ha (by omega)
    subst hal;have hal2:=ha2 (by omega)
    subst hal2;have hlt2:k<l2.length:=by omega
    have d0:=(hb.cell (by exact Aa (hk k hlt))).trans (hk k hlt)
    have d1:=(hb.cell (by exact Aa (hk2 k hlt2))).trans (hk2 k hlt2)
    clear hk ha hk2 ha2;by_cases hq:iAt l1 k=iAt l2 k
    ·have hq' :(iAt l1 k != iAt l2 k)=false:=by rw[bne_eq_false_iff_eq];exact hq
     have EQ:Hid (iAt l1 k=iAt l2 k):=hq
     clear hq;go_wp2_with fail;go_quiet (fail)
     go_wp2;go_roundw
     case rel=>exact⟨k+1,by omega,by go_num,fun i hi=>if h:i<k then ALL.out i h else by rw[show i=k by omega];exact EQ.out,below_drewN hb _⟩
     case measure=>simp[intOf];omega
    ·have hq' :(iAt l1 k != iAt l2 k)=true:=by rw[bne_iff_ne];exact hq
     have NE:Hid (decide (l1=l2)=false):=decide_eq_false (fun e=>hq (by rw[e]))
     clear hq;go_wp2_with fail;go_quiet (fail)
     go_wp2;go_ret;exact⟨Az NE.out.symm,below_drewN hb _⟩
   ·go_wp2;go_ret;refine⟨Az ?_,hb⟩
    symm
    rw[decide_eq_true_iff]
    exact Yo HL.out (fun i hi=>ALL.out i (by omega))
 ·have hne:((l1.length:Int) != (l2.length:Int))=true:=by rw[bne_iff_ne];omega
  go_enter Tryz.func24,Tryz.ntmps24
  go_wp2;go_ret;refine⟨Az ?_,Below.refl _ _⟩
  symm
  rw[decide_eq_false_iff_not]
  intro h;exact hl (by rw[h])

def Tc (n:Nat):Prop:=∀(x y:TV) (T:Tr) (w:World),AH n w x T->AH n w y T→
  Calls Tryz.prog 8 #[x.val,y.val] w fun e w' =>e= .returned (.bool true)/\Below w.heap.size w w'
def TI (n:Nat):Prop:=∀(v u:Value) (ts:List Tr) (w:World),Ev n w v ts->Ev n w u ts→
  Calls Tryz.prog 25 #[v,u] w fun e w' =>e= .returned (.bool true)/\Below w.heap.size w w'

theorem Td {n:Nat} (H:Tc n):TI n:=by
 intro v u ts w hv hu;obtain⟨xs,hxl,hrow,hk⟩:=hv
 obtain⟨ys,hyl,hrow2,hk2⟩:=hu
 obtain⟨a,b,off,cap,rfl,hcap,hmax,ha,c0,c1,c2,c3,c4⟩:=hrow.trees
 obtain⟨a2,b2,off2,cap2,rfl,hcap2,hmax2,ha2,g0,g1,g2,g3,g4⟩:=hrow2.trees
 unfold maxLen at hmax hmax2;have hl2:xs.length<=ys.length:=by omega
 have hne:((xs.length:Int) != (ys.length:Int))=false:=by rw[bne_eq_false_iff_eq];omega
 clear hxl hyl;go_enter Tryz.func25,Tryz.ntmps25
 go_wp2;go_loopw [5] (fun i wr=>∃k:Nat,k<=xs.length/\i= .int .i64 k/\Below w.heap.size w wr)
  (fun i _=>xs.length-(intOf i).toNat)
 case atStart=>exact⟨0,Nat.zero_le _,rfl,Below.refl _ _⟩
 case round=>
  obtain⟨k,hkl,rfl,hb⟩:=hrel
  by_cases hlt:k<xs.length
  ·have hal:=ha (by omega)
   subst hal;have hal2:=ha2 (by omega)
   subst hal2;have hlt2:k<ys.length:=by omega
   have d0:=(hb.cell (by exact Aa (c0 k hlt))).trans (c0 k hlt)
   have d1:=(hb.cell (by exact Aa (c1 k hlt))).trans (c1 k hlt)
   have d2:=(hb.cell (by exact Aa (c2 k hlt))).trans (c2 k hlt)
   have d3:=(hb.cell (by exact Aa (c3 k hlt))).trans (c3 k hlt)
   have d4:=(hb.cell (by exact Aa (c4 k hlt))).trans (c4 k hlt)
   have e0:=(hb.cell (by exact Aa (g0 k hlt2))).trans (g0 k hlt2)
   have e1:=(hb.cell (by exact Aa (g1 k hlt2))).trans (g1 k hlt2)
   have e2:=(hb.cell (by exact Aa (g2 k hlt2))).trans (g2 k hlt2)
   have e3:=(hb.cell (by exact Aa (g3 k hlt2))).trans (g3 k hlt2)
   have e4:=(hb.cell (by exact Aa (g4 k hlt2))).trans (g4 k hlt2)
   have T0:Hid (AH n wr.drew (Al xs k) (ts.getD k Aj)):=(hk k hlt).below hb.drew
   have T1:Hid (AH n wr.drew (Al ys k) (ts.getD k Aj)):=(hk2 k hlt2).below hb.drew
   clear c0 c1 c2 c3 c4 hk hrow ha g0 g1 g2 g3 g4 hk2 hrow2 ha2;go_wp2_with fail;go_region_with (go_at_call 8;refine(H (Al xs k) (Al ys k) _ _ T0.out T1.out).mono ?_;rintro e w1 ⟨rfl,hb1⟩)
   all_goals
    go_wp2;go_roundw
    case rel=>exact⟨k+1,by omega,by go_num,hb.drew.trans (hb1.mono hb.size)⟩
    case measure=>simp[intOf];omega
  ·clear c0 c1 c2 c3 c4 hk hrow ha g0 g1 g2 g3 g4 hk2 hrow2 ha2;go_wp2;go_ret;exact⟨rfl,hb⟩

structure Hq (u:World) (B:Nat) (A Z:Array Value):Prop where
 h0:u.heap[B]? =some (.cells A 29 (0,0))
 h1:u.heap[B+1]? =some (.cells Z 29 (0,0))
theorem Hq.step {u w' :World} {B:Nat} {A Z:Array Value} (h:Hq u B A Z) (hb:Below u.heap.size u w'):Hq w' B A Z:=by
 have hs:=(Array.getElem?_eq_some_iff.1 h.h1).1
 exact⟨(hb.block _ (by omega)).trans h.h0,(hb.block _ (by omega)).trans h.h1⟩
theorem Hq.cells {u:World} {B:Nat} {A Z:Array Value} (h:Hq u B A Z):(∀j,u.cell? ⟨B,j,none⟩=A[j]?)/\(∀j,u.cell? ⟨B+1,j,none⟩=Z[j]?):=
 ⟨fun j=>cell_of_row u B j A 29 (0,0) h.h0,fun j=>cell_of_row u (B+1) j Z 29 (0,0) h.h1⟩
theorem Hq.start (w:World) (A Z:Array Value):Hq ((w.alloc (.cells A 29)).alloc (.cells Z 29)) w.heap.size A Z:=by
 have e:∀(x:World) (o:Obj),(x.alloc o).heap.size=x.heap.size+1:=fun x o=>by simp
 have k1:∀(x:World) (o:Obj) (g:Nat),g<x.heap.size->(x.alloc o).heap[g]? =x.heap[g]? :=fun x o g hg=>((Below.refl x.heap.size x).alloc (Nat.le_refl _) o).block g hg
 refine⟨?_, ?_⟩
 ·rw[k1 _ _ _ (by rw[e];omega)];exact heap_alloc_new w _
 ·rw[←e w (.cells A 29)];exact heap_alloc_new _ _

theorem Vd {n:Nat} (H:TI n):Tc (n+1):=by
 intro x y T w ht hu;obtain⟨lf,p,c,k,b⟩:=x
 obtain⟨lf2,p2,c2,k2,b2⟩:=y
 obtain⟨hlf,hp,hc,hb,hk⟩:=ht.parts
 obtain⟨hlf2,hp2,hc2,hb2,hk2⟩:=hu.parts
 simp only at hlf hp hc hb hk hlf2 hp2 hc2 hb2 hk2
 subst hlf;subst hlf2;have R1:Hid (Row w p T.pairs.length (Af T.pairs)):=hp
 have R2:Hid (Row w c T.cuts.length (Ac T.cuts)):=hc
 have R3:Hid (Ev n w k T.kids):=hk
 have R4:Hid (Row w b T.buf.length (Ag T.buf)):=hb
 have Q1:Hid (Row w p2 T.pairs.length (Af T.pairs)):=hp2
 have Q2:Hid (Row w c2 T.cuts.length (Ac T.cuts)):=hc2
 have Q3:Hid (Ev n w k2 T.kids):=hk2
 have Q4:Hid (Row w b2 T.buf.length (Ag T.buf)):=hb2
 clear hp hc hb hk ht hp2 hc2 hb2 hk2 hu;have hlf:(T.leaf != T.leaf)=false:=by simp
 show Calls Tryz.prog 8 #[.agg #[.bool T.leaf,p,c,k,b], .agg #[.bool T.leaf,p2,c2,k2,b2]] w _
 have B0:Hid (Below w.heap.size w ((w.alloc (.cells #[.bool T.leaf,p,c,k,b] 29)).alloc (.cells #[.bool T.leaf,p2,c2,k2,b2] 29))):=((Below.refl _ _).alloc (Nat.le_refl _) _).alloc (by simp) _
 have S0:Hid (Hq _ w.heap.size _ _):=Hq.start w #[.bool T.leaf,p,c,k,b] #[.bool T.leaf,p2,c2,k2,b2]
 go_enter Tryz.func8,Tryz.ntmps8
 go_wp2_with fail;refine(Kp _ _ _ _ _ (R1.out.below B0.out) (Q1.out.below B0.out)).mono ?_
 rintro e w1 ⟨he,hb1⟩
 rw[decide_eq_true rfl] at he
 subst he;have B1:Hid (Below w.heap.size w w1):=Below.and B0.out hb1
 have S1:Hid (Hq w1 w.heap.size #[.bool T.leaf,p,c,k,b] #[.bool T.leaf,p2,c2,k2,b2]):=S0.out.step hb1
 obtain⟨k0,k1⟩:=S1.out.cells
 clear B0 S0 hb1;go_wp2_with fail;refine(Ry _ _ _ _ _ (R2.out.below B1.out) (Q2.out.below B1.out)).mono ?_
 rintro e w2 ⟨he,hb2⟩
 rw[decide_eq_true rfl] at he
 subst he;have B2:Hid (Below w.heap.size w w2):=Below.and B1.out hb2
 have S2:Hid (Hq w2 w.heap.size #[.bool T.leaf,p,c,k,b] #[.bool T.leaf,p2,c2,k2,b2]):=S1.out.step hb2
 clear B1 S1 hb2 k0 k1;obtain⟨k0,k1⟩:=S2.out.cells
 go_wp2_with fail;refine(H _ _ T.kids _ (R3.out.below B2.out) (Q3.out.below B2.out)).mono ?_
 rintro e w3 ⟨rfl,hb3⟩
 have B3:Hid (Below w.heap.size w w3):=Below.and B2.out hb3
 have S3:Hid (Hq w3 w.heap.size #[.bool T.leaf,p,c,k,b] #[.bool T.leaf,p2,c2,k2,b2]):=S2.out.step hb3
 clear B2 S2 hb3 k0 k1;obtain⟨k0,k1⟩:=S3.out.cells
 go_wp2_with fail;refine(Tb _ _ _ _ _ (R4.out.below B3.out) (Q4.out.below B3.out)).mono ?_
 rintro e w4 ⟨he,hb4⟩
 rw[decide_eq_true rfl] at he
 subst he;have B4:Hid (Below w.heap.size w w4):=Below.and B3.out hb4
 clear B3 S3 hb4 k0 k1;go_wp2;go_ret;exact⟨rfl,B4.out⟩

theorem Ll:∀n,Tc n
 |0=>fun _ _ _ _ h=>h.elim
 |n+1=>Vd (Td (Ll n))
end
section
open Go.RowKit

def CQ (k:Int) (n:Nat):ML:=(List.range n).map fun (i:Nat)=>(k+3*i,k+3*i+1,k+3*i+2)
theorem Co (k:Int) (n:Nat):(CQ k n).length=n:=by simp[CQ]
theorem Rm (k:Int) (n:Nat):CQ k (n+1)=CQ k n++[(k+3*n,k+3*n+1,k+3*n+2)]:=by simp[CQ,List.range_succ]
theorem JU (k:Int) (n i:Nat) (h:i<n):mO (CQ k n) i=k+3*i/\mK (CQ k n) i=k+3*i+1/\mV (CQ k n) i=k+3*i+2:=by
 simp[CQ,mO,mK,mV,List.getD,h]
def Iv (k:Int) (l:ML) (i:Nat):ML:=CQ k i++l.drop i
theorem Rg (k:Int) (l:ML) (i:Nat) (h:i<=l.length):(Iv k l i).length=l.length:=by simp[Iv,Co];omega
theorem Uy (k:Int) (l:ML):Iv k l 0=l:=by simp[Iv,CQ]
theorem Vt (k:Int) (l:ML):Iv k l l.length=CQ k l.length:=by simp[Iv]
theorem Va (k:Int) (l:ML) (i:Nat) (h:i<l.length):(Iv k l i).set i (k+3*i,k+3*i+1,k+3*i+2)=Iv k l (i+1):=by
 rw[Iv,Iv,Rm,List.drop_eq_getElem_cons h,List.set_append_right _ _ (by rw[Co];omega),Co,Nat.sub_self,List.set_cons_zero]
 simp

theorem Wm {w:World} {base e size n cap:Nat} {a:Option Addr} {xs:List Value} (h:w.ownsRow base e size (.slice a n cap) n xs):cap<=maxLen:=by
 obtain⟨_,⟨e,_⟩|⟨g,cap',cur,e,_,_,_,hc,_⟩⟩:=h
 ·simp at e;rw[e.2.2];exact Nat.zero_le _
 ·simp at e;rw[e.2];exact hc

theorem Po (v:Value) (l:ML) (k:Int) (w:World) (h:w.ownsRow 0 44 3 v l.length (Ag l)) (hn:l.length<=4194304) (hk0:0<=k) (hk1:k<=4194304) :
  Calls Tryz.prog 30 #[v, .int .i64 k] w fun e w' =>e= .returned (.int .i64 (k+3*l.length))/\w'.ownsRow 0 44 3 v l.length (Ag (CQ k l.length))/\Chg (fun g=>v.ownBlock=some g) w w' :=by
 obtain⟨a,cap,hv⟩:=A8 h
 have OW:Hid (w.ownsRow 0 44 3 v l.length (Ag l)):=h
 clear h;rw[hv] at OW ⊢
 clear hv;have hcap:=Wm OW.out
 unfold maxLen at hcap;go_enter Tryz.func30,Tryz.ntmps30
 go_wp2;go_loopw [1,5] (fun kk i wr=>∃j:Nat,j<=l.length/\i= .int .i64 j/\kk= .int .i64 (k+3*j)/\wr.ownsRow 0 44 3 (.slice a l.length cap) l.length (Ag (Iv k l j))/\Chg (fun g=>(Value.slice a l.length cap).ownBlock=some g) w wr)
  (fun _ i _=>l.length-(intOf i).toNat)
 case atStart=>exact⟨0,Nat.zero_le _,rfl,by simp,by rw[Uy];exact OW.out,Chg.refl _ _⟩
 case round=>
  obtain⟨j,hj,rfl,rfl,hown,hch⟩:=hrel
  by_cases hlt:j<l.length
  ·have hex:∃g,a=some ⟨g,0,none⟩:=by
    obtain⟨_,⟨e,e2⟩|⟨g,cap',cur,e,_⟩⟩:=hown
    ·omega
    ·simp at e;exact⟨g,e.1⟩
   obtain⟨g,rfl⟩:=hex
   have hml:(Iv k l j).length=l.length:=Rg k l j hj
   have hat:=FD (Iv k l j) j (by omega)
   have e0:=(hown.cellAt (j*3) (by omega)).trans hat.1
   have e1:=(hown.cellAt (j*3+1) (by omega)).trans hat.2.1
   have e2:=(hown.cellAt (j*3+2) (by omega)).trans hat.2.2
   have f0:=hown.frozenAt (j*3)
   have f1:=hown.frozenAt (j*3+1)
   have f2:=hown.frozenAt (j*3+2)
   have st:=(hown.stored (j*3) (.int .i64 (k+3*j))).1
   have st2:=(st.stored (j*3+1) (.int .i64 (k+3*j+1))).1
   have st3:=(st2.stored (j*3+2) (.int .i64 (k+3*j+2))).1
   rw[Nw _ _ _ _ j (by omega),Va k l j hlt] at st3
   have hch2:Chg (fun g' =>(Value.slice (some ⟨g,0,none⟩) l.length cap).ownBlock=some g') w (((wr.setCell ⟨g,j*3,none⟩ (.int .i64 (k+3*j))).setCell ⟨g,j*3+1,none⟩ (.int .i64 (k+3*j+1))).setCell ⟨g,j*3+2,none⟩ (.int .i64 (k+3*j+2))):=
    ((hch.setAt g _ rfl _).setAt g _ rfl _).setAt g _ rfl _
   generalize mO (Iv k l j) j=x0 at *
   generalize mK (Iv k l j) j=x1 at *
   generalize mV (Iv k l j) j=x2 at *
   have ST:Hid _:=And.intro st3 hch2
   clear st st2 st3 hch2 hown hch hml hat OW;have hb0:0<=k+3*(j:Int):=by omega
   have hb1:k+3*(j:Int)<=100000000:=by omega
   go_wp2;go_roundw
   case rel=>exact⟨j+1,by omega,by go_num,by go_num,by rw[show k+3*(j:Int)+2=k+3*(j:Int)+1+1 by omega] at ST;exact ST.out.1,by rw[show k+3*(j:Int)+2=k+3*(j:Int)+1+1 by omega] at ST;exact ST.out.2⟩
   case measure=>simp[intOf];omega
  ·have hjl:j=l.length:=by omega
   subst hjl;go_wp2;go_ret;rw[Vt] at hown
   exact⟨rfl,hown,hch⟩

theorem JE (v:Value) (n:Nat) (k:Int) (w:World) (h:Row w v n (Ag (CQ k n))) (hn:n<=4194304) (hk0:0<=k) (hk1:k<=4194304) :
  Calls Tryz.prog 34 #[v, .int .i64 k] w fun e w' =>e= .returned (.int .i64 (k+3*n))/\w' =w:=by
 have h' :Row w v (CQ k n).length (Ag (CQ k n)):=by rw[Co];exact h
 obtain⟨a,b,off,cap,rfl,hcap,hmax,ha,ho,hk,hv⟩:=h'.msgs
 rw[Co] at *
 unfold maxLen at hmax;clear h h';go_enter Tryz.func34,Tryz.ntmps34
 go_wp2;go_loop [1,5] (fun kk i=>∃j:Nat,j<=n/\i= .int .i64 j/\kk= .int .i64 (k+3*j)) (fun _ i=>n-(intOf i).toNat)
 case atStart=>exact⟨0,Nat.zero_le _,rfl,by simp⟩
 case round=>
  obtain⟨j,hj,rfl,rfl⟩:=hrel
  by_cases hlt:j<n
  ·have hal:=ha (by omega)
   subst hal;have d0:w.cell? ⟨b,off+j*3,none⟩=some (.int .i64 (k+3*j)):=by rw[ho j hlt,(JU k n j hlt).1]
   have d1:w.cell? ⟨b,off+j*3+1,none⟩=some (.int .i64 (k+3*j+1)):=by rw[hk j hlt,(JU k n j hlt).2.1]
   have d2:w.cell? ⟨b,off+j*3+2,none⟩=some (.int .i64 (k+3*j+1+1)):=by rw[hv j hlt,(JU k n j hlt).2.2,show k+3*(j:Int)+2=k+3*(j:Int)+1+1 by omega]
   clear ho hk hv;have hb0:0<=k+3*(j:Int):=by omega
   have hb1:k+3*(j:Int)<=100000000:=by omega
   go_wp2;go_round
   case rel=>exact⟨j+1,by omega,by go_num,by go_num⟩
   case measure=>simp[intOf];omega
  ·have hjl:j=n:=by omega
   subst hjl;go_wp2;go_ret;exact⟨rfl,rfl⟩
end
end Go.Proofs.YtebglpllkjgjbaaGreat
