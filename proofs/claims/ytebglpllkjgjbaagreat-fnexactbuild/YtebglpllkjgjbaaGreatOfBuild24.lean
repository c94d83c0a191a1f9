/-
  Build of the program.
  The model's l4SameMap: two maps are the same.
-/
import Derived.Test.YtebglpllkjgjbaaGreatOfBuild23
namespace Go.Proofs.YtebglpllkjgjbaaGreat
set_option maxRecDepth 100000
set_option maxHeartbeats 8000000
section
open Go.RowKit

theorem UY (w:World):Calls Tryz.prog 20 #[] w fun e w' =>e= .returned (.agg #[.bool true, .slice none 0 0, .slice none 0 0, .slice none 0 0, .slice none 0 0])/\Below w.heap.size w w' :=by
 go_enter Tryz.func20,Tryz.ntmps20
 go_wp2;refine bodyPost_ret (v:= .agg #[.bool true, .slice none 0 0, .slice none 0 0, .slice none 0 0, .slice none 0 0]) (by simp[results,Tryz.results20,go_sem]) rfl ⟨rfl,(Below.refl _ _).alloc (Nat.le_refl _) _⟩

theorem PU (II:∀(x:TV) (T:Tr) (F:Nat->Prop) (k v:Int) (u:World),Aq 8 u F x T->AQ 8 T<=1048576->Calls Tryz.prog 21 #[x.val, .agg #[.int .i64 1, .int .i64 k, .int .i64 v]] u fun e w' =>∃(y:TV) (N:Nat),e= .returned y.val/\Aq N w' (fun g=>u.heap.size<=g) y (EV T (1,k,v))/\Below u.heap.size u w')
  (TM:∀(x:TV) (T:Tr) (u:World),AH 8 u x T->AQ 8 T<=1048576->Calls Tryz.prog 23 #[x.val] u fun e w' =>∃v',e= .returned v' ∧w'.ownsRow u.heap.size 42 2 v' (DZ T).length (Af (DZ T))/\Below u.heap.size u w')
  (v:Value) (l:List (Int × Int)) (w:World) (h:Row w v l.length (Af l)) (hn:l.length<=1048576) :
  Calls Tryz.prog 7 #[v] w fun e w' =>∃y:TV,e= .returned (.tuple #[y.val, .bool (Db l)])/\Aq 8 w' (fun g=>w.heap.size<=g) y (Bm l)/\Below w.heap.size w w' :=by
 obtain⟨a,b,off,cap,rfl,hcap,hmax,ha,hk,hv⟩:=h.pairs
 unfold maxLen at hmax;have MO:Hid (∀u,Below w.heap.size w u->Calls Tryz.prog 19 #[.slice a l.length cap] u fun e w' =>e= .returned (.bool (Bf l))/\Below u.heap.size u w'):=fun u hu=>Ft _ l u (h.below hu)
 have EQ:Hid (∀u v' ,Below w.heap.size w u->Row u v' (DZ (Ea l)).length (Af (DZ (Ea l)))->Calls Tryz.prog 22 #[v', .slice a l.length cap] u fun e w' =>e= .returned (.bool (decide (DZ (Ea l)=l)))/\Below u.heap.size u w'):=fun u v' hu hr=>Si v' _ (DZ (Ea l)) l u hr (h.below hu)
 have KV:Hid (∀j u,Below w.heap.size w u->j<l.length->u.cell? ⟨b,off+j*2,none⟩=some (.int .i64 (kOf l j))/\u.cell? ⟨b,off+j*2+1,none⟩=some (.int .i64 (vOf l j))):=fun j u hu hj=>⟨(hu.cell (Aa (hk j hj))).trans (hk j hj),(hu.cell (Aa (hv j hj))).trans (hv j hj)⟩
 have HA:=As ha
 have IJ:=As II
 have TMM:=As TM
 have LT:Hid (l.take l.length=l):=List.take_length
 have L0:Hid (Ea (l.take 0)=nT):=rfl
 have BS:Hid (∀j,j<l.length->EV (Ea (l.take j)) (1,kOf l j,vOf l j)=Ea (l.take (j+1))):=fun j hj=>NP l j hj
 have B1:Hid (Below w.heap.size w (w.alloc (.cells #[.bool false, .slice none 0 0, .slice none 0 0, .slice none 0 0, .slice none 0 0] 29))):=(Below.refl _ _).alloc (Nat.le_refl _) _
 have Y1:Hid ((w.alloc (.cells #[.bool false, .slice none 0 0, .slice none 0 0, .slice none 0 0, .slice none 0 0] 29)).heap[w.heap.size]? =some (.cells #[.bool false, .slice none 0 0, .slice none 0 0, .slice none 0 0, .slice none 0 0] 29 (0,0))):=heap_alloc_new w _
 have zw:Hid (w.heap.size<(w.alloc (.cells #[.bool false, .slice none 0 0, .slice none 0 0, .slice none 0 0, .slice none 0 0] 29)).heap.size):=by show _<_;simp
 have HN:=As hn
 clear h hk hv ha II TM hn;generalize hL:l.length=L at *
 have HL:=As hL
 clear hL;go_enter Tryz.func7,Tryz.ntmps7
 go_wp2_with fail;refine(MO.out _ B1.out).mono ?_
 rintro e w1 ⟨rfl,b1⟩
 replace Y1:=As (stepB Y1.out b1)
 replace B1:=As (Below.and B1.out b1)
 replace zw:=As (Nat.lt_of_lt_of_le zw.out b1.size)
 clear b1 MO
 cases hm:Bf l
 ·have BF:Hid (Db l=false):=by show _=_;unfold Db;rw[hm];rfl
  clear hm;go_upto_region 2 with fail
  have TH:Hid (w1.there w.heap.size 0 (List.toArray ([.bool false, .slice none 0 0, .slice none 0 0, .slice none 0 0, .slice none 0 0]:List Value)).size):=Gh Y1.out rfl
  have XF:Hid ((w1.setCells w.heap.size 0 ([.bool false, .slice none 0 0, .slice none 0 0, .slice none 0 0, .slice none 0 0]:List Value)).heap[w.heap.size]? =some (.cells (List.toArray ([.bool false, .slice none 0 0, .slice none 0 0, .slice none 0 0, .slice none 0 0]:List Value)) 29 (0,0))):=My Y1.out _ rfl
  have HM:Hid ((Tryz.prog.info? 29).map (·.size)=some (List.toArray ([.bool false, .slice none 0 0, .slice none 0 0, .slice none 0 0, .slice none 0 0]:List Value)).size):=(show(Tryz.prog.info? 29).map (·.size)=some 5 by kernel_rfl)
  have AL:Hid ((List.toArray ([.bool false, .slice none 0 0, .slice none 0 0, .slice none 0 0, .slice none 0 0]:List Value)).all (·.oneCell')=true):=by show _=_;simp[Value.oneCell']
  have FIN:Hid (∃y:TV,Value.agg (List.toArray ([.bool false, .slice none 0 0, .slice none 0 0, .slice none 0 0, .slice none 0 0]:List Value))=y.val/\Aq 8 (w1.setCells w.heap.size 0 ([.bool false, .slice none 0 0, .slice none 0 0, .slice none 0 0, .slice none 0 0]:List Value)) (fun g=>w.heap.size<=g) y (Bm l)/\Below w.heap.size w (w1.setCells w.heap.size 0 ([.bool false, .slice none 0 0, .slice none 0 0, .slice none 0 0, .slice none 0 0]:List Value))):=⟨⟨false, .slice none 0 0, .slice none 0 0, .slice none 0 0, .slice none 0 0⟩,rfl,by unfold Bm;rw[BF.out];exact Oj false _ _,B1.out.trans ((Be _ _ _).below (fun g _ hg=>by omega) B1.out.size)⟩
  clear Y1 B1;go_wp2_with (refine wpList_store_mid rfl 29 _ _ rfl w.heap.size 0 (List.toArray ([.bool false, .slice none 0 0, .slice none 0 0, .slice none 0 0, .slice none 0 0]:List Value)) rfl rfl TH.out HM.out AL.out ?_)
  generalize (w1.setCells w.heap.size 0 ([.bool false, .slice none 0 0, .slice none 0 0, .slice none 0 0, .slice none 0 0]:List Value))=WF at *
  exact⟨rfl,_,Vv Tryz.results7 _ WF w.heap.size 29 _ (0,0) _ rfl XF.out Tryz.underlying29 rfl HM.out,(by obtain⟨y,e,r⟩:=FIN.out;exact⟨y,by rw[←e,BF.out];rfl,r⟩)⟩
 have HM1:=As hm
 clear hm;go_wp2_with fail;refine(UY _).mono ?_
 rintro e w2 ⟨rfl,b2⟩
 have na:Below w2.heap.size w2 (w2.alloc (.cells #[.bool true, .slice none 0 0, .slice none 0 0, .slice none 0 0, .slice none 0 0] 29)):=(Below.refl _ _).alloc (Nat.le_refl _) _
 have XN:Hid ((w2.alloc (.cells #[.bool true, .slice none 0 0, .slice none 0 0, .slice none 0 0, .slice none 0 0] 29)).heap[w2.heap.size]? =some (.cells #[.bool true, .slice none 0 0, .slice none 0 0, .slice none 0 0, .slice none 0 0] 29 (0,0))):=heap_alloc_new w2 _
 replace Y1:=As (stepB (stepB Y1.out b2) na)
 replace B1:=As (Below.and (Below.and B1.out b2) na)
 have zn:Hid (w.heap.size<w2.heap.size):=Nat.lt_of_lt_of_le zw.out b2.size
 have zm:Hid (w2.heap.size<(w2.alloc (.cells #[.bool true, .slice none 0 0, .slice none 0 0, .slice none 0 0, .slice none 0 0] 29)).heap.size):=by show _<_;simp
 clear b2 na zw;go_upto_region 4 with fail
 generalize w2.alloc (.cells #[.bool true, .slice none 0 0, .slice none 0 0, .slice none 0 0, .slice none 0 0] 29)=W at *
 generalize w2.heap.size=NT at *
 go_wp2;go_loopw [14] (fun i wr=>∃(j:Nat) (yl:Bool) (y1 y2 y3 y4:Option Addr × Nat × Nat),i= .int .i64 j/\j<=L/\Hid (Aq 8 wr (fun g=>NT<g) (⟨yl, .slice y1.1 y1.2.1 y1.2.2, .slice y2.1 y2.2.1 y2.2.2, .slice y3.1 y3.2.1 y3.2.2, .slice y4.1 y4.2.1 y4.2.2⟩:TV) (Ea (l.take j)))/\Hid (wr.heap[NT]? =some (.cells #[.bool yl, .slice y1.1 y1.2.1 y1.2.2, .slice y2.1 y2.2.1 y2.2.2, .slice y3.1 y3.2.1 y3.2.2, .slice y4.1 y4.2.1 y4.2.2] 29 (0,0)))/\Hid (wr.heap[w.heap.size]? =some (.cells #[.bool false, .slice none 0 0, .slice none 0 0, .slice none 0 0, .slice none 0 0] 29 (0,0)))/\Hid (Below w.heap.size w wr)/\Hid (NT<wr.heap.size))
  (fun i _=>L-(intOf i).toNat)
 case atStart=>exact⟨0,true,(none,0,0),(none,0,0),(none,0,0),(none,0,0),rfl,Nat.zero_le _,by show Aq _ _ _ _ _;rw[L0.out];exact Oj true _ _,XN.out,Y1.out,B1.out,zm.out⟩
 case round=>
  obtain⟨j,yl,y1,y2,y3,y4,rfl,hj,TD,XT,YR,BW,ZN⟩:=hrel
  clear XN Y1 B1 zm;by_cases hlt:j<L
  ·have hal:=HA.out (by omega)
   subst hal;obtain⟨d0,d1⟩:=KV.out j wr BW.out hlt
   have hj1:(j:Int)<(L:Int):=by omega
   have bs:=As (BS.out j hlt)
   have OK1:=As (Hf (l.take j))
   have na:Below wr.heap.size wr (wr.alloc (.cells #[.int .i64 (kOf l j), .int .i64 (vOf l j)] 42)):=(Below.refl _ _).alloc (Nat.le_refl _) _
   have PB:Hid ((wr.alloc (.cells #[.int .i64 (kOf l j), .int .i64 (vOf l j)] 42)).heap[wr.heap.size]? =some (.cells #[.int .i64 (kOf l j), .int .i64 (vOf l j)] 42 (0,0))):=heap_alloc_new wr _
   replace TD:=As (TD.out.below na)
   replace XT:=As (stepB XT.out na)
   replace YR:=As (stepB YR.out na)
   replace BW:=As (Below.and BW.out na)
   replace ZN:=As (Nat.lt_of_lt_of_le ZN.out na.size)
   clear na;go_upto_region 7 with fail
   generalize (wr.alloc (.cells #[.int .i64 (kOf l j), .int .i64 (vOf l j)] 42))=V at *
   generalize wr.heap.size=PP at *
   have c1:=fun i=>Ae (j:=i) XT.out
   have p1:=fun i=>Ae (j:=i) PB.out
   have C:=As (IJ.out (⟨yl, .slice y1.1 y1.2.1 y1.2.2, .slice y2.1 y2.2.1 y2.2.2, .slice y3.1 y3.2.1 y3.2.2, .slice y4.1 y4.2.1 y4.2.2⟩:TV) (Ea (l.take j)) _ (kOf l j) (vOf l j) V TD.out (by have:=sz8 OK1.out;omega))
   go_wp2_with fail;refine C.out.mono ?_
   rintro e w3 ⟨z,NN,rfl,td,b3⟩
   rw[bs.out] at td
   replace td:=ok8 td (Hf _)
   obtain⟨zl,z1,z2,z3,z4,hz⟩:=td.slb
   obtain⟨zs,hzs⟩:∃zs:List Value,zs=([.bool zl, .slice z1.1 z1.2.1 z1.2.2, .slice z2.1 z2.2.1 z2.2.2, .slice z3.1 z3.2.1 z3.2.2, .slice z4.1 z4.2.1 z4.2.2]:List Value):=⟨_,rfl⟩
   have zv:z.val= .agg zs.toArray:=by rw[hz,hzs]
   rw[zv]
   replace XT:=As (stepB XT.out b3)
   replace YR:=As (stepB YR.out b3)
   replace BW:=As (Below.and BW.out b3)
   have TD3:=As (td.mono (G:=fun g=>NT<g) (fun g hg=>Nat.lt_of_lt_of_le ZN.out hg))
   replace ZN:=As (Nat.lt_of_lt_of_le ZN.out b3.size)
   have TH:Hid (w3.there NT 0 zs.toArray.size):=Gh XT.out (by rw[hzs];rfl)
   have HM:Hid ((Tryz.prog.info? 29).map (·.size)=some zs.toArray.size):=by rw[hzs];exact(show(Tryz.prog.info? 29).map (·.size)=some 5 by kernel_rfl)
   have AL:Hid (zs.toArray.all (·.oneCell')=true):=by show _=_;rw[hzs];simp[Value.oneCell']
   have XT4:Hid ((w3.setCells NT 0 zs).heap[NT]? =some (.cells zs.toArray 29 (0,0))):=My XT.out _ (by rw[hzs];rfl)
   have GC:=Be w3 NT zs
   have YR4:=As (DO (F:=fun g=>g=NT) YR.out GC (by have:=zn.out;omega))
   have BW4:=As (BW.out.trans (GC.below (fun g _ e=>by have:=zn.out;omega) BW.out.size))
   have TD4:=As (TD3.out.chg GC (fun g hg e=>by omega))
   have ZN4:Hid (NT<(w3.setCells NT 0 zs).heap.size):=Nat.lt_of_lt_of_le ZN.out GC.size
   have ZE:=As (And.intro hz hzs)
   clear GC XT YR BW TD3 ZN TD td b3 C c1 p1 PB hz hzs zv;go_wp2_with (refine wpList_store_mid rfl 29 _ _ rfl NT 0 zs.toArray rfl rfl TH.out HM.out AL.out ?_)
   generalize w3.setCells NT 0 zs=V4 at *
   go_roundw
   case rel=>exact⟨j+1,zl,z1,z2,z3,z4,by go_num,by omega,by have:=TD4.out;rw[ZE.out.1] at this;exact this,by have:=XT4.out;rw[ZE.out.2] at this;exact this,YR4.out,BW4.out,ZN4.out⟩
   case measure=>simp[intOf];omega
  ·have hjL:j=L:=by omega
   have TD2:Hid (Aq 8 wr (fun g=>NT<g) (⟨yl, .slice y1.1 y1.2.1 y1.2.2, .slice y2.1 y2.2.1 y2.2.2, .slice y3.1 y3.2.1 y3.2.2, .slice y4.1 y4.2.1 y4.2.2⟩:TV) (Ea l)):=by have:=TD.out;rw[hjL,LT.out] at this;exact this
   have hj2:¬(j:Int)<(L:Int):=by omega
   clear TD KV HA BS;have c1:=fun i=>Ae (j:=i) XT.out
   have OK2:=As (Hf l)
   have TA:=As (TMM.out (⟨yl, .slice y1.1 y1.2.1 y1.2.2, .slice y2.1 y2.2.1 y2.2.2, .slice y3.1 y3.2.1 y3.2.2, .slice y4.1 y4.2.1 y4.2.2⟩:TV) (Ea l) wr TD2.out.treeF.treeAt (by have:=sz8 OK2.out;omega))
   go_wp2_with fail;refine TA.out.mono ?_
   rintro e w5 ⟨v5,rfl,o5,b5⟩
   have E5:=As (EQ.out w5 v5 (Below.and BW.out b5) (Row.of_owns o5))
   replace XT:=As (stepB XT.out b5)
   replace YR:=As (stepB YR.out b5)
   replace BW:=As (Below.and BW.out b5)
   replace TD2:=As (TD2.out.below b5)
   clear b5 o5 c1 TA;go_wp2_with fail;refine E5.out.mono ?_
   rintro e w6 ⟨rfl,b6⟩
   replace XT:=As (stepB XT.out b6)
   replace YR:=As (stepB YR.out b6)
   replace BW:=As (Below.and BW.out b6)
   replace TD2:=As (TD2.out.below b6)
   clear b6 E5 EQ;by_cases he:DZ (Ea l)=l
   ·have BF:Hid (Db l=true):=by show _=_;unfold Db;rw[HM1.out];simpa using he
    have hd:decide (DZ (Ea l)=l)=true:=by simpa using he
    rw[hd]
    clear he hd;have RG:Hid (w6.rangeAt NT 0 ([.bool yl, .slice y1.1 y1.2.1 y1.2.2, .slice y2.1 y2.2.1 y2.2.2, .slice y3.1 y3.2.1 y3.2.2, .slice y4.1 y4.2.1 y4.2.2]:List Value)):=FJ XT.out
    have TH:Hid (w6.there w.heap.size 0 (List.toArray ([.bool yl, .slice y1.1 y1.2.1 y1.2.2, .slice y2.1 y2.2.1 y2.2.2, .slice y3.1 y3.2.1 y3.2.2, .slice y4.1 y4.2.1 y4.2.2]:List Value)).size):=Gh YR.out rfl
    have XF:Hid ((w6.setCells w.heap.size 0 ([.bool yl, .slice y1.1 y1.2.1 y1.2.2, .slice y2.1 y2.2.1 y2.2.2, .slice y3.1 y3.2.1 y3.2.2, .slice y4.1 y4.2.1 y4.2.2]:List Value)).heap[w.heap.size]? =some (.cells (List.toArray ([.bool yl, .slice y1.1 y1.2.1 y1.2.2, .slice y2.1 y2.2.1 y2.2.2, .slice y3.1 y3.2.1 y3.2.2, .slice y4.1 y4.2.1 y4.2.2]:List Value)) 29 (0,0))):=My YR.out _ rfl
    have HM:Hid ((Tryz.prog.info? 29).map (·.size)=some (List.toArray ([.bool yl, .slice y1.1 y1.2.1 y1.2.2, .slice y2.1 y2.2.1 y2.2.2, .slice y3.1 y3.2.1 y3.2.2, .slice y4.1 y4.2.1 y4.2.2]:List Value)).size):=(show(Tryz.prog.info? 29).map (·.size)=some 5 by kernel_rfl)
    have HM0:Hid ((Tryz.prog.info? 29).map (·.size)=some (List.length ([.bool yl, .slice y1.1 y1.2.1 y1.2.2, .slice y2.1 y2.2.1 y2.2.2, .slice y3.1 y3.2.1 y3.2.2, .slice y4.1 y4.2.1 y4.2.2]:List Value))):=(show(Tryz.prog.info? 29).map (·.size)=some 5 by kernel_rfl)
    have AL:Hid ((List.toArray ([.bool yl, .slice y1.1 y1.2.1 y1.2.2, .slice y2.1 y2.2.1 y2.2.2, .slice y3.1 y3.2.1 y3.2.2, .slice y4.1 y4.2.1 y4.2.2]:List Value)).all (·.oneCell')=true):=by show _=_;simp[Value.oneCell']
    have FIN:Hid (∃y:TV,Value.agg (List.toArray ([.bool yl, .slice y1.1 y1.2.1 y1.2.2, .slice y2.1 y2.2.1 y2.2.2, .slice y3.1 y3.2.1 y3.2.2, .slice y4.1 y4.2.1 y4.2.2]:List Value))=y.val/\Aq 8 (w6.setCells w.heap.size 0 ([.bool yl, .slice y1.1 y1.2.1 y1.2.2, .slice y2.1 y2.2.1 y2.2.2, .slice y3.1 y3.2.1 y3.2.2, .slice y4.1 y4.2.1 y4.2.2]:List Value)) (fun g=>w.heap.size<=g) y (Bm l)/\Below w.heap.size w (w6.setCells w.heap.size 0 ([.bool yl, .slice y1.1 y1.2.1 y1.2.2, .slice y2.1 y2.2.1 y2.2.2, .slice y3.1 y3.2.1 y3.2.2, .slice y4.1 y4.2.1 y4.2.2]:List Value))):=⟨(⟨yl, .slice y1.1 y1.2.1 y1.2.2, .slice y2.1 y2.2.1 y2.2.2, .slice y3.1 y3.2.1 y3.2.2, .slice y4.1 y4.2.1 y4.2.2⟩:TV),rfl,by unfold Bm;rw[BF.out];exact(TD2.out.chg (Be _ _ _) (fun g hg e=>by have:=zn.out;omega)).mono (fun g hg=>by have:=zn.out;omega),BW.out.trans ((Be _ _ _).below (fun g _ hg=>by omega) BW.out.size)⟩
    clear XT YR BW TD2;go_wp2_with (first|(refine wpList_load_mid rfl 29 _ rfl NT 0 rfl ([.bool yl, .slice y1.1 y1.2.1 y1.2.2, .slice y2.1 y2.2.1 y2.2.2, .slice y3.1 y3.2.1 y3.2.2, .slice y4.1 y4.2.1 y4.2.2]:List Value) _ RG.out Tryz.underlying29 rfl HM0.out ?_)|(refine wpList_store_mid rfl 29 _ _ rfl w.heap.size 0 (List.toArray ([.bool yl, .slice y1.1 y1.2.1 y1.2.2, .slice y2.1 y2.2.1 y2.2.2, .slice y3.1 y3.2.1 y3.2.2, .slice y4.1 y4.2.1 y4.2.2]:List Value)) rfl rfl TH.out HM.out AL.out ?_))
    generalize w6.setCells w.heap.size 0 ([.bool yl, .slice y1.1 y1.2.1 y1.2.2, .slice y2.1 y2.2.1 y2.2.2, .slice y3.1 y3.2.1 y3.2.2, .slice y4.1 y4.2.1 y4.2.2]:List Value)=WF at *
    exact⟨rfl,_,Vv Tryz.results7 _ WF w.heap.size 29 _ (0,0) _ rfl XF.out Tryz.underlying29 rfl HM.out,(by obtain⟨y,e,r⟩:=FIN.out;exact⟨y,by rw[←e,BF.out];rfl,r⟩)⟩
   ·have BF:Hid (Db l=false):=by show _=_;unfold Db;simp[he]
    have hd:decide (DZ (Ea l)=l)=false:=by simpa using he
    rw[hd]
    clear he hd XT TD2;go_upto_region 10 with fail
    have TH:Hid (w6.there w.heap.size 0 (List.toArray ([.bool false, .slice none 0 0, .slice none 0 0, .slice none 0 0, .slice none 0 0]:List Value)).size):=Gh YR.out rfl
    have XF:Hid ((w6.setCells w.heap.size 0 ([.bool false, .slice none 0 0, .slice none 0 0, .slice none 0 0, .slice none 0 0]:List Value)).heap[w.heap.size]? =some (.cells (List.toArray ([.bool false, .slice none 0 0, .slice none 0 0, .slice none 0 0, .slice none 0 0]:List Value)) 29 (0,0))):=My YR.out _ rfl
    have HM:Hid ((Tryz.prog.info? 29).map (·.size)=some (List.toArray ([.bool false, .slice none 0 0, .slice none 0 0, .slice none 0 0, .slice none 0 0]:List Value)).size):=(show(Tryz.prog.info? 29).map (·.size)=some 5 by kernel_rfl)
    have AL:Hid ((List.toArray ([.bool false, .slice none 0 0, .slice none 0 0, .slice none 0 0, .slice none 0 0]:List Value)).all (·.oneCell')=true):=by show _=_;simp[Value.oneCell']
    have FIN:Hid (∃y:TV,Value.agg (List.toArray ([.bool false, .slice none 0 0, .slice none 0 0, .slice none 0 0, .slice none 0 0]:List Value))=y.val/\Aq 8 (w6.setCells w.heap.size 0 ([.bool false, .slice none 0 0, .slice none 0 0, .slice none 0 0, .slice none 0 0]:List Value)) (fun g=>w.heap.size<=g) y (Bm l)/\Below w.heap.size w (w6.setCells w.heap.size 0 ([.bool false, .slice none 0 0, .slice none 0 0, .slice none 0 0, .slice none 0 0]:List Value))):=⟨⟨false, .slice none 0 0, .slice none 0 0, .slice none 0 0, .slice none 0 0⟩,rfl,by unfold Bm;rw[BF.out];exact Oj false _ _,BW.out.trans ((Be _ _ _).below (fun g _ hg=>by omega) BW.out.size)⟩
    clear YR BW;go_wp2_with (refine wpList_store_mid rfl 29 _ _ rfl w.heap.size 0 (List.toArray ([.bool false, .slice none 0 0, .slice none 0 0, .slice none 0 0, .slice none 0 0]:List Value)) rfl rfl TH.out HM.out AL.out ?_)
    generalize (w6.setCells w.heap.size 0 ([.bool false, .slice none 0 0, .slice none 0 0, .slice none 0 0, .slice none 0 0]:List Value))=WF at *
    exact⟨rfl,_,Vv Tryz.results7 _ WF w.heap.size 29 _ (0,0) _ rfl XF.out Tryz.underlying29 rfl HM.out,(by obtain⟨y,e,r⟩:=FIN.out;exact⟨y,by rw[←e,BF.out];rfl,r⟩)⟩
end
section
open Go.RowKit

theorem Qk (v1 v2:Value) (l1 l2:PL) (w:World) (h1:Row w v1 l1.length (Af l1)) (h2:Row w v2 l2.length (Af l2)) :
  Calls Tryz.prog 16 #[v1,v2] w fun e w' =>e= .returned (.bool (decide (l1=l2)))/\Below w.heap.size w w' :=by
 obtain⟨a,b,off,cap,rfl,hcap,hmax,ha,hx0,hx1⟩:=h1.pairs
 obtain⟨a2,b2,off2,cap2,rfl,hcap2,hmax2,ha2,hy0,hy1⟩:=h2.pairs
 unfold maxLen at hmax hmax2;go_enter Tryz.func16,Tryz.ntmps16
 go_wp2;go_loopw [5] (fun i wr=>∃k:Nat,k<=l1.length/\k<=l2.length/\i= .int .i64 k/\(∀i,i<k->kOf l1 i=kOf l2 i/\vOf l1 i=vOf l2 i)/\Below w.heap.size w wr)
  (fun i _=>l1.length-(intOf i).toNat)
 case atStart=>exact⟨0,Nat.zero_le _,Nat.zero_le _,rfl,fun i hi=>absurd hi (Nat.not_lt_zero _),Below.refl _ _⟩
 case round=>
  obtain⟨k,hkl,hkl2,rfl,hall,hb⟩:=hrel
  have ALL:Hid (∀i,i<k->kOf l1 i=kOf l2 i/\vOf l1 i=vOf l2 i):=hall
  clear hall;by_cases hlt:k<l1.length
  ·by_cases hlt2:k<l2.length
   ·have hal:=ha (by omega)
    subst hal;have hal2:=ha2 (by omega)
    subst hal2;have d0:=(hb.cell (by exact Aa (hx0 k hlt))).trans (hx0 k hlt)
    have d1:=(hb.cell (by exact Aa (hx1 k hlt))).trans (hx1 k hlt)
    have e0:=(hb.cell (by exact Aa (hy0 k hlt2))).trans (hy0 k hlt2)
    have e1:=(hb.cell (by exact Aa (hy1 k hlt2))).trans (hy1 k hlt2)
    have hg:=Tryz.guardP
    have hq:=Tryz.neqP (kOf l1 k) (vOf l1 k) (kOf l2 k) (vOf l2 k)
    clear ha ha2 hx0 hx1 hy0 hy1;by_cases he:kOf l1 k=kOf l2 k/\vOf l1 k=vOf l2 k
    ·rw[decide_eq_true he,Bool.not_true] at hq
     have EQ:Hid _:=he
     clear he;go_wp2;go_quiet (fail)
     go_wp2;go_roundw
     case rel=>exact⟨k+1,by omega,by omega,by go_num,fun i hi=>if h:i<k then ALL.out i h else by rw[show i=k by omega];exact EQ.out,below_drewN hb _⟩
     case measure=>simp[intOf];omega
    ·rw[decide_eq_false he,Bool.not_false] at hq
     have NE:Hid (decide (l1=l2)=false):=decide_eq_false (fun e=>he (by subst e;exact⟨rfl,rfl⟩))
     clear he;go_wp2;go_quiet (fail)
     go_wp2;go_ret;exact⟨Az NE.out.symm,below_drewN hb _⟩
   ·have NE:Hid (decide (l1=l2)=false):=decide_eq_false (fun e=>by subst e;omega)
    have hne:((l1.length:Int)==(l2.length:Int))=false:=by rw[beq_eq_false_iff_ne];omega
    go_wp2;go_ret;exact⟨Az NE.out.symm,hb⟩
  ·by_cases hl:l1.length=l2.length
   ·have YE:Hid (decide (l1=l2)=true):=decide_eq_true (WG hl (fun i hi=>ALL.out i (by omega)))
    have hne:((l1.length:Int)==(l2.length:Int))=true:=by rw[beq_iff_eq];omega
    clear hl;go_wp2;go_ret;exact⟨Az YE.out.symm,hb⟩
   ·have NE:Hid (decide (l1=l2)=false):=decide_eq_false (fun e=>hl (by rw[e]))
    have hne:((l1.length:Int)==(l2.length:Int))=false:=by rw[beq_eq_false_iff_ne];omega
    go_wp2;go_ret;exact⟨Az NE.out.symm,hb⟩
end
end Go.Proofs.YtebglpllkjgjbaaGreat
