/-
  The walk of the law FnExactBuild.
  Contracts of slices.Grow and slices.Concat at messages, and of the program's msgsOfKid.
-/
import Derived.Test.YtebglpllkjgjbaaGreatOfBuild24
import Derived.Test.YtebglpllkjgjbaaGreatOfBuild25
import Derived.Test.YtebglpllkjgjbaaGreatOfBuild27
import Derived.Test.YtebglpllkjgjbaaGreatOfBuild1
import Derived.Test.YtebglpllkjgjbaaGreatOfBuild11
import Derived.Lib.Walk
import Derived.Lib.SliceRun
import Derived.Lib.AppendZerosOnto
namespace Go.Proofs.YtebglpllkjgjbaaGreat
set_option maxRecDepth 100000
set_option maxHeartbeats 8000000
section
open Go.RowKit

theorem Cf {P:Program} {ops:Array Oper} {rest:List Oper} {op:Oper} {a:Act} {w:World} {Q:Exit->Act->World->Prop} (hw:Region.wanted op (yielded ops a.tmps)=true) (ty:TypeId) (x:Operand) (ho:op.op= .load ty x)
  (b o:Nat) (hx:a.eval x= .pointer (some ⟨b,o,none⟩)) (cs:List Value) (d:TypeDesc) (hc:w.rangeAt b o cs)
  (hu:P.underlying ty=some d) (hd:d.isRow=true) (hi:(P.info? ty).map (·.size)=some cs.length)
  (h:wpList P ops Q rest (a.put op.dst (.agg cs.toArray)) w):wpList P ops Q (op::rest) a w:=
 wpList_step fun _ hK=>by rw[if_pos hw];exact wp_load_mid ty x ho b o hx cs d hc hu hd hi (hK _ _ h)
theorem Aq.cells5 {n:Nat} {w:World} {F:Nat->Prop} {x:TV} {T:Tr} (h:Aq n w F x T):∃cs:List Value,x.val= .agg cs.toArray/\cs.length=5/\cs.toArray.all (·.oneCell')=true:=by
 obtain⟨b,x1,x2,x3,x4,rfl⟩:=h.slb
 exact⟨[_,_,_,_,_],rfl,rfl,by simp[Value.oneCell']⟩
theorem Oq (l:List (Int × Int)):AQ 8 (Bm l)<=1000000:=by
 unfold Bm;split
 ·exact sz8 (Hf l)
 ·exact(show AQ 8 oT<=1000000 by decide)

theorem K7 (SB:∀(v:Value) (l:List (Int × Int)) (u:World),Row u v l.length (Af l)->l.length<=1048576->Calls Tryz.prog 5 #[v] u fun e w' =>∃y:TV,e= .returned (.tuple #[y.val, .bool (Db l)])/\Aq 8 w' (fun g=>u.heap.size<=g) y (Bm l)/\Below u.heap.size u w')
  (IB:∀(v:Value) (l:List (Int × Int)) (u:World),Row u v l.length (Af l)->l.length<=1048576->Calls Tryz.prog 7 #[v] u fun e w' =>∃y:TV,e= .returned (.tuple #[y.val, .bool (Db l)])/\Aq 8 w' (fun g=>u.heap.size<=g) y (Bm l)/\Below u.heap.size u w')
  (v:Value) (l:List (Int × Int)) (w:World) (h:Row w v l.length (Af l)) :
  Calls Tryz.prog 3 #[v] w fun e w' =>e= .returned (.bool true)/\Below w.heap.size w w' :=by
 obtain⟨av,qv,hvv,hlen⟩:=h.len
 subst hvv;have hln:l.length<=maxLen:=by obtain⟨_,_,_,cap,e,h2,h3,_⟩:=h;simp at e;omega
 have SZ1:Hid (∀u,Calls Tryz.prog 4 #[.slice av l.length qv, .int .i64 1048576] u fun e w' =>e= .returned (.int .i64 (if (l.length:Int)<=1048576 then 1048576-l.length else -1))/\w' =u):=fun u=>Rw av l.length qv 1048576 hln (by omega) (by omega) u
 have TO1:Hid (∀u,Below w.heap.size w u->l.length<=1048576->Calls Tryz.prog 6 #[.slice av l.length qv] u fun e w' =>∃v',e= .returned v' ∧Ak w' u.heap.size 42 2 v' l.length (Af l)/\Below u.heap.size u w'):=fun u hu hs=>(Qf _ l u (h.below hu) hs).mono (fun e w' ⟨v',a,b,c⟩=>⟨v',a, .inl b,c⟩)
 have SP1:Hid (∀u x,Row u x l.length (Af l)->l.length<=1048576->Calls Tryz.prog 5 #[x] u fun e w' =>∃y:TV,e= .returned (.tuple #[y.val, .bool (Db l)])/\Aq 8 w' (fun g=>u.heap.size<=g) y (Bm l)/\Below u.heap.size u w'):=fun u x hx hs=>SB x l u hx hs
 have IP1:Hid (∀u x,Row u x l.length (Af l)->l.length<=1048576->Calls Tryz.prog 7 #[x] u fun e w' =>∃y:TV,e= .returned (.tuple #[y.val, .bool (Db l)])/\Aq 8 w' (fun g=>u.heap.size<=g) y (Bm l)/\Below u.heap.size u w'):=fun u x hx hs=>IB x l u hx hs
 have EQ1:Hid (∀u (K K' :TV),AH 8 u K (Bm l)->AH 8 u K' (Bm l)->Calls Tryz.prog 8 #[K.val,K'.val] u fun e w' =>e= .returned (.bool true)/\Below u.heap.size u w'):=fun u K K' h1 h2=>Ll 8 K K' (Bm l) u h1 h2
 have EQ2:Hid (∀u x y,Row u x l.length (Af l)->Row u y l.length (Af l)->Calls Tryz.prog 9 #[x,y] u fun e w' =>e= .returned (.bool true)/\Below u.heap.size u w'):=fun u x y h1 h2=>by
  have:=Kp x y l l u h1 h2
  simpa using this
 have MK1:Hid (∀u x lo,Ak u lo 42 2 x l.length (Af l)->l.length<=1048576->Calls Tryz.prog 10 #[x, .int .i64 1] u fun e w' =>e= .returned (.int .i64 ((1+2*l.length:Nat):Int))/\Chg (fun g=>wrB x g) u w'):=fun u x lo hx hs=>(Ie lo x l 1 u hx (by omega) (by omega) (by omega)).mono (fun e w' ⟨a,b,c⟩=>⟨by rw[a];congr 2,c⟩)
 have MK2:Hid (∀u (K:TV) lo hi,Aq 8 u (fun g=>lo<=g/\g<hi) K (Bm l)->hi<=u.heap.size->Calls Tryz.prog 11 #[K.val, .int .i64 1] u fun e w' =>e= .returned (.int .i64 (1+(mkT 8 (Bm l):Nat)))/\Aq 8 w' (fun g=>lo<=g/\g<hi) K (Fo 8 1 (Bm l))/\Chg (fun g=>lo<=g/\g<hi) u w'):=fun u K lo hi hm hz=>SY 8 K (Bm l) _ 1 u hm (fun g hg=>by omega) (by omega) (by have:=Sw 8 (Bm l);have:=Oq l;omega)
 have HD1:Hid (∀u (K:TV),AH 8 u K (Fo 8 1 (Bm l))->Calls Tryz.prog 12 #[K.val, .int .i64 1] u fun e w' =>e= .returned (.int .i64 (1+(mkT 8 (Bm l):Nat)))/\Below u.heap.size u w'):=fun u K hm=>Sy 8 K (Bm l) 1 u hm (by omega) (by have:=Sw 8 (Bm l);have:=Oq l;omega)
 have km:¬((1:Int)+(mkT 8 (Bm l):Nat)<0):=by omega
 generalize (1:Int)+(mkT 8 (Bm l):Nat)=mg at *
 generalize Fo 8 1 (Bm l)=DM at *
 generalize Bm l=DD at *
 generalize Db l=bf at *
 generalize Af l=fl at *
 generalize hmn:1+2*l.length=mn at *
 clear hmn;generalize l.length=nL at *
 have hbb:(bf != bf)=false:=by cases bf<;>rfl
 have hmm:(mg != mg)=false:=by simp
 have B1:Hid (Below w.heap.size w w):=Below.refl _ _
 clear h SB IB hlen hln;go_enter Tryz.func3,Tryz.ntmps3
 go_wp2_with fail;refine(SZ1.out w).mono ?_
 rintro e w1 ⟨rfl,hw1⟩
 subst hw1;clear SZ1;by_cases hs:(nL:Int)<=1048576
 rotate_left
 ·rw[if_neg hs]
  go_wp2;go_ret;exact⟨rfl,B1.out⟩
 rw[if_pos hs]
 have SM:Hid (nL<=1048576):=by show _<=_;omega
 obtain⟨r,hr⟩:∃r:Int,1048576-(nL:Int)=r:=⟨_,rfl⟩
 have hr0:¬r<0:=by omega
 rw[hr]
 clear hr hs;go_wp2_with fail;refine(TO1.out _ B1.out SM.out).mono ?_
 rintro e w2 ⟨v0,rfl,t0,b2⟩
 have SP:=As (SP1.out w2 v0 t0.rowF.row SM.out)
 replace B1:=As (Below.and B1.out b2)
 have z2:=b2.size
 clear b2 t0 SP1;go_wp2_with fail;refine SP.out.mono ?_
 rintro e w3 ⟨KW,rfl,tw,b3⟩
 replace B1:=As (Below.and B1.out b3)
 have z3:=b3.size
 clear b3 SP;have TW:=As tw.lt
 obtain⟨ws,wsv,wsl,wso⟩:=tw.cells5
 have wsh:Hid ((Tryz.prog.info? 29).map (·.size)=some ws.length):=by show _=_;rw[wsl];kernel_rfl
 have wsk:Hid ((Tryz.prog.info? 29).map (·.size)=some ws.toArray.size):=by show _=_;rw[List.size_toArray];exact wsh.out
 have NA:Below w3.heap.size w3 ((w3.alloc (.cells #[.bool false, .slice none 0 0, .slice none 0 0, .slice none 0 0, .slice none 0 0] 29)).setCells w3.heap.size 0 ws):=((Below.refl w3.heap.size w3).alloc (Nat.le_refl _) _).trans ((Be _ _ _).below (fun g _ e=>by omega) (by simp))
 have TH:Hid (World.there (w3.alloc (.cells #[.bool false, .slice none 0 0, .slice none 0 0, .slice none 0 0, .slice none 0 0] 29)) w3.heap.size 0 ws.toArray.size):=Gh (heap_alloc_new w3 _) (show 5=ws.toArray.size by rw[List.size_toArray,wsl])
 have SZws:w3.heap.size+1<=((w3.alloc (.cells #[.bool false, .slice none 0 0, .slice none 0 0, .slice none 0 0, .slice none 0 0] 29)).setCells w3.heap.size 0 ws).heap.size:=by have:=(Be (w3.alloc (.cells #[.bool false, .slice none 0 0, .slice none 0 0, .slice none 0 0, .slice none 0 0] 29)) w3.heap.size ws).size;simpa using this
 have Xws:Hid (((w3.alloc (.cells #[.bool false, .slice none 0 0, .slice none 0 0, .slice none 0 0, .slice none 0 0] 29)).setCells w3.heap.size 0 ws).heap[w3.heap.size]? =some (.cells ws.toArray 29 (0,0))):=My (heap_alloc_new w3 _) _ (by rw[wsl];rfl)
 have wsV:=As wsv
 replace B1:=As (Below.and B1.out NA)
 replace TW:=As (TW.out.below NA)
 rw[wsv]
 clear NA wsv wsl;go_upto_region 6 with(refine wpList_store_mid rfl 29 _ _ rfl w3.heap.size 0 ws.toArray rfl rfl TH.out wsk.out wso ?_)
 clear TH wso wsk;generalize (w3.alloc (.cells #[.bool false, .slice none 0 0, .slice none 0 0, .slice none 0 0, .slice none 0 0] 29)).setCells w3.heap.size 0 ws=V4 at *
 clear tw;go_wp2_with fail;refine(TO1.out _ B1.out SM.out).mono ?_
 rintro e V6 ⟨xv,rfl,tx,b5⟩
 replace B1:=As (Below.and B1.out b5)
 replace TW:=As (TW.out.below b5)
 replace Xws:=As (stepB Xws.out b5)
 have z5:=b5.size
 have XO:=As tx
 have XL:Hid (∀g,wrB xv g->V4.heap.size<=g/\g<V6.heap.size):=tx.lt
 clear b5 tx;have IP:=As (IP1.out V6 xv XO.out.rowF.row SM.out)
 go_wp2_with fail;refine IP.out.mono ?_
 rintro e w7 ⟨KG,rfl,tg,b7⟩
 replace B1:=As (Below.and B1.out b7)
 replace TW:=As (TW.out.below b7)
 replace Xws:=As (stepB Xws.out b7)
 replace XO:=As (XO.out.below b7)
 have z7:=b7.size
 have GN:Hid (Aq 8 w7 (fun g=>V6.heap.size<=g/\g<w7.heap.size) KG DD):=tg.lt
 clear b7 IP;obtain⟨gs,gsv,gsl,gso⟩:=tg.cells5
 have gsh:Hid ((Tryz.prog.info? 29).map (·.size)=some gs.length):=by show _=_;rw[gsl];kernel_rfl
 have gsk:Hid ((Tryz.prog.info? 29).map (·.size)=some gs.toArray.size):=by show _=_;rw[List.size_toArray];exact gsh.out
 have NA:Below w7.heap.size w7 ((w7.alloc (.cells #[.bool false, .slice none 0 0, .slice none 0 0, .slice none 0 0, .slice none 0 0] 29)).setCells w7.heap.size 0 gs):=((Below.refl w7.heap.size w7).alloc (Nat.le_refl _) _).trans ((Be _ _ _).below (fun g _ e=>by omega) (by simp))
 have TH:Hid (World.there (w7.alloc (.cells #[.bool false, .slice none 0 0, .slice none 0 0, .slice none 0 0, .slice none 0 0] 29)) w7.heap.size 0 gs.toArray.size):=Gh (heap_alloc_new w7 _) (show 5=gs.toArray.size by rw[List.size_toArray,gsl])
 have SZgs:w7.heap.size+1<=((w7.alloc (.cells #[.bool false, .slice none 0 0, .slice none 0 0, .slice none 0 0, .slice none 0 0] 29)).setCells w7.heap.size 0 gs).heap.size:=by have:=(Be (w7.alloc (.cells #[.bool false, .slice none 0 0, .slice none 0 0, .slice none 0 0, .slice none 0 0] 29)) w7.heap.size gs).size;simpa using this
 have Xgs:Hid (((w7.alloc (.cells #[.bool false, .slice none 0 0, .slice none 0 0, .slice none 0 0, .slice none 0 0] 29)).setCells w7.heap.size 0 gs).heap[w7.heap.size]? =some (.cells gs.toArray 29 (0,0))):=My (heap_alloc_new w7 _) _ (by rw[gsl];rfl)
 have gsV:=As gsv
 replace B1:=As (Below.and B1.out NA)
 replace TW:=As (TW.out.below NA)
 replace Xws:=As (stepB Xws.out NA)
 replace XO:=As (XO.out.below NA)
 replace GN:=As (GN.out.below NA)
 rw[gsv]
 clear NA gsv gsl;go_upto_region 8 with(refine wpList_store_mid rfl 29 _ _ rfl w7.heap.size 0 gs.toArray rfl rfl TH.out gsk.out gso ?_)
 clear TH gso gsk;generalize (w7.alloc (.cells #[.bool false, .slice none 0 0, .slice none 0 0, .slice none 0 0, .slice none 0 0] 29)).setCells w7.heap.size 0 gs=V8 at *
 clear tg;have rg:=FJ Xgs.out
 rw[List.toList_toArray] at rg
 have rw:=FJ Xws.out
 rw[List.toList_toArray] at rw
 have EQ:Hid (Calls Tryz.prog 8 #[.agg gs.toArray, .agg ws.toArray] V8 fun e w' =>e= .returned (.bool true)/\Below V8.heap.size V8 w'):=by
  have:=EQ1.out V8 KG KW GN.out.treeF.treeAt TW.out.treeF.treeAt
  rw[gsV.out,wsV.out] at this
  exact this
 go_wp2_with (first|(refine Cf (by rfl) 29 _ rfl w7.heap.size 0 rfl gs _ rg Tryz.underlying29 rfl gsh.out ?_)|(refine Cf (by rfl) 29 _ rfl w3.heap.size 0 rfl ws _ rw Tryz.underlying29 rfl wsh.out ?_))
 refine EQ.out.mono ?_
 rintro e w9 ⟨rfl,b9⟩
 replace B1:=As (Below.and B1.out b9)
 replace TW:=As (TW.out.below b9)
 replace Xws:=As (stepB Xws.out b9)
 replace XO:=As (XO.out.below b9)
 replace GN:=As (GN.out.below b9)
 replace Xgs:=As (stepB Xgs.out b9)
 have zb9:=b9.size
 clear b9 rg rw EQ;go_wp2_with fail;refine(TO1.out _ B1.out SM.out).mono ?_
 rintro e wz ⟨v3,rfl,t3,bz⟩
 replace B1:=As (Below.and B1.out bz)
 replace TW:=As (TW.out.below bz)
 replace Xws:=As (stepB Xws.out bz)
 replace XO:=As (XO.out.below bz)
 replace GN:=As (GN.out.below bz)
 replace Xgs:=As (stepB Xgs.out bz)
 have zz:=bz.size
 have EP:=As (EQ2.out wz xv v3 XO.out.rowF.row t3.rowF.row)
 clear bz t3;go_wp2_with fail;refine EP.out.mono ?_
 rintro e wa ⟨rfl,ba⟩
 replace B1:=As (Below.and B1.out ba)
 replace TW:=As (TW.out.below ba)
 replace Xws:=As (stepB Xws.out ba)
 replace XO:=As (XO.out.below ba)
 replace GN:=As (GN.out.below ba)
 replace Xgs:=As (stepB Xgs.out ba)
 have za:=ba.size
 clear ba EP EQ2;have MK:=As (MK1.out wa xv _ XO.out SM.out)
 go_wp2_with fail;refine MK.out.mono ?_
 rintro e wb ⟨rfl,gb0⟩
 have gb:Chg (fun g=>V4.heap.size<=g/\g<V6.heap.size) wa wb:=gb0.mono (fun g _ hg=>XL.out g hg)
 clear XO MK MK1 gb0;replace B1:=As (B1.out.trans (gb.below (fun g _ e=>by omega) B1.out.size))
 replace TW:=As (TW.out.chg gb (fun g a e=>by omega))
 replace Xws:=As (DO Xws.out gb (fun e=>by omega))
 replace GN:=As (GN.out.chg gb (fun g a e=>by omega))
 replace Xgs:=As (DO Xgs.out gb (fun e=>by omega))
 have zb:=gb.size
 clear gb;have rg:=FJ Xgs.out
 rw[List.toList_toArray] at rg
 have rw:=FJ Xws.out
 rw[List.toList_toArray] at rw
 have EQ:Hid (Calls Tryz.prog 8 #[.agg gs.toArray, .agg ws.toArray] wb fun e w' =>e= .returned (.bool true)/\Below wb.heap.size wb w'):=by
  have:=EQ1.out wb KG KW GN.out.treeF.treeAt TW.out.treeF.treeAt
  rw[gsV.out,wsV.out] at this
  exact this
 go_wp2_with (first|(refine Cf (by rfl) 29 _ rfl w7.heap.size 0 rfl gs _ rg Tryz.underlying29 rfl gsh.out ?_)|(refine Cf (by rfl) 29 _ rfl w3.heap.size 0 rfl ws _ rw Tryz.underlying29 rfl wsh.out ?_))
 refine EQ.out.mono ?_
 rintro e wc ⟨rfl,bc⟩
 replace B1:=As (Below.and B1.out bc)
 replace TW:=As (TW.out.below bc)
 replace Xws:=As (stepB Xws.out bc)
 replace GN:=As (GN.out.below bc)
 replace Xgs:=As (stepB Xgs.out bc)
 have zbc:=bc.size
 clear bc rg rw EQ;have rg:=FJ Xgs.out
 rw[List.toList_toArray] at rg
 have MK:Hid (Calls Tryz.prog 11 #[.agg gs.toArray, .int .i64 1] wc fun e w' =>e= .returned (.int .i64 mg)/\Aq 8 w' (fun g=>V6.heap.size<=g/\g<w7.heap.size) KG DM/\Chg (fun g=>V6.heap.size<=g/\g<w7.heap.size) wc w'):=by
  have:=MK2.out wc KG _ _ GN.out (by omega)
  rw[gsV.out] at this
  exact this
 go_wp2_with (refine Cf (by rfl) 29 _ rfl w7.heap.size 0 rfl gs _ rg Tryz.underlying29 rfl gsh.out ?_)
 refine MK.out.mono ?_
 rintro e wd ⟨rfl,gm,gd⟩
 clear GN rg MK MK2;replace B1:=As (B1.out.trans (gd.below (fun g _ e=>by omega) B1.out.size))
 replace TW:=As (TW.out.chg gd (fun g a e=>by omega))
 replace Xws:=As (DO Xws.out gd (fun e=>by omega))
 replace Xgs:=As (DO Xgs.out gd (fun e=>by omega))
 have zd:=gd.size
 have GM:=As gm
 clear gd gm;have rg:=FJ Xgs.out
 rw[List.toList_toArray] at rg
 have HE:Hid (Calls Tryz.prog 12 #[.agg gs.toArray, .int .i64 1] wd fun e w' =>e= .returned (.int .i64 mg)/\Below wd.heap.size wd w'):=by
  have:=HD1.out wd KG GM.out.treeF.treeAt
  rw[gsV.out] at this
  exact this
 go_wp2_with (refine Cf (by rfl) 29 _ rfl w7.heap.size 0 rfl gs _ rg Tryz.underlying29 rfl gsh.out ?_)
 refine HE.out.mono ?_
 rintro e we ⟨rfl,be⟩
 replace B1:=As (Below.and B1.out be)
 replace TW:=As (TW.out.below be)
 replace Xws:=As (stepB Xws.out be)
 replace Xgs:=As (stepB Xgs.out be)
 replace GM:=As (GM.out.below be)
 have zbe:=be.size
 clear be rg HE;go_wp2_with fail;refine(TO1.out _ B1.out SM.out).mono ?_
 rintro e wf ⟨vh,rfl,th,bf2⟩
 have IP:=As (IP1.out wf vh th.rowF.row SM.out)
 replace B1:=As (Below.and B1.out bf2)
 replace TW:=As (TW.out.below bf2)
 replace Xws:=As (stepB Xws.out bf2)
 replace Xgs:=As (stepB Xgs.out bf2)
 replace GM:=As (GM.out.below bf2)
 have zf:=bf2.size
 clear bf2 th IP1 TO1;go_wp2_with fail;refine IP.out.mono ?_
 rintro e wg ⟨KH,rfl,tk,bg⟩
 replace B1:=As (Below.and B1.out bg)
 replace TW:=As (TW.out.below bg)
 replace Xws:=As (stepB Xws.out bg)
 replace Xgs:=As (stepB Xgs.out bg)
 replace GM:=As (GM.out.below bg)
 have zg:=bg.size
 have HN:=As tk.lt
 clear bg IP;obtain⟨hs,hsv,hsl,hso⟩:=tk.cells5
 have hsh:Hid ((Tryz.prog.info? 29).map (·.size)=some hs.length):=by show _=_;rw[hsl];kernel_rfl
 have hsk:Hid ((Tryz.prog.info? 29).map (·.size)=some hs.toArray.size):=by show _=_;rw[List.size_toArray];exact hsh.out
 have NA:Below wg.heap.size wg ((wg.alloc (.cells #[.bool false, .slice none 0 0, .slice none 0 0, .slice none 0 0, .slice none 0 0] 29)).setCells wg.heap.size 0 hs):=((Below.refl wg.heap.size wg).alloc (Nat.le_refl _) _).trans ((Be _ _ _).below (fun g _ e=>by omega) (by simp))
 have TH:Hid (World.there (wg.alloc (.cells #[.bool false, .slice none 0 0, .slice none 0 0, .slice none 0 0, .slice none 0 0] 29)) wg.heap.size 0 hs.toArray.size):=Gh (heap_alloc_new wg _) (show 5=hs.toArray.size by rw[List.size_toArray,hsl])
 have SZhs:wg.heap.size+1<=((wg.alloc (.cells #[.bool false, .slice none 0 0, .slice none 0 0, .slice none 0 0, .slice none 0 0] 29)).setCells wg.heap.size 0 hs).heap.size:=by have:=(Be (wg.alloc (.cells #[.bool false, .slice none 0 0, .slice none 0 0, .slice none 0 0, .slice none 0 0] 29)) wg.heap.size hs).size;simpa using this
 have Xhs:Hid (((wg.alloc (.cells #[.bool false, .slice none 0 0, .slice none 0 0, .slice none 0 0, .slice none 0 0] 29)).setCells wg.heap.size 0 hs).heap[wg.heap.size]? =some (.cells hs.toArray 29 (0,0))):=My (heap_alloc_new wg _) _ (by rw[hsl];rfl)
 have hsV:=As hsv
 replace B1:=As (Below.and B1.out NA)
 replace TW:=As (TW.out.below NA)
 replace Xws:=As (stepB Xws.out NA)
 replace Xgs:=As (stepB Xgs.out NA)
 replace GM:=As (GM.out.below NA)
 replace HN:=As (HN.out.below NA)
 rw[hsv]
 clear NA hsv hsl;go_upto_region 25 with(refine wpList_store_mid rfl 29 _ _ rfl wg.heap.size 0 hs.toArray rfl rfl TH.out hsk.out hso ?_)
 clear TH hso hsk;generalize (wg.alloc (.cells #[.bool false, .slice none 0 0, .slice none 0 0, .slice none 0 0, .slice none 0 0] 29)).setCells wg.heap.size 0 hs=Vh at *
 clear tk;have rg:=FJ Xhs.out
 rw[List.toList_toArray] at rg
 have rw:=FJ Xws.out
 rw[List.toList_toArray] at rw
 have EQ:Hid (Calls Tryz.prog 8 #[.agg hs.toArray, .agg ws.toArray] Vh fun e w' =>e= .returned (.bool true)/\Below Vh.heap.size Vh w'):=by
  have:=EQ1.out Vh KH KW HN.out.treeF.treeAt TW.out.treeF.treeAt
  rw[hsV.out,wsV.out] at this
  exact this
 go_wp2_with (first|(refine Cf (by rfl) 29 _ rfl wg.heap.size 0 rfl hs _ rg Tryz.underlying29 rfl hsh.out ?_)|(refine Cf (by rfl) 29 _ rfl w3.heap.size 0 rfl ws _ rw Tryz.underlying29 rfl wsh.out ?_))
 refine EQ.out.mono ?_
 rintro e wi ⟨rfl,bi⟩
 replace B1:=As (Below.and B1.out bi)
 replace TW:=As (TW.out.below bi)
 replace Xws:=As (stepB Xws.out bi)
 replace Xgs:=As (stepB Xgs.out bi)
 replace GM:=As (GM.out.below bi)
 replace HN:=As (HN.out.below bi)
 replace Xhs:=As (stepB Xhs.out bi)
 have zbi:=bi.size
 clear bi rg rw EQ;have rg:=FJ Xgs.out
 rw[List.toList_toArray] at rg
 have HE:Hid (Calls Tryz.prog 12 #[.agg gs.toArray, .int .i64 1] wi fun e w' =>e= .returned (.int .i64 mg)/\Below wi.heap.size wi w'):=by
  have:=HD1.out wi KG GM.out.treeF.treeAt
  rw[gsV.out] at this
  exact this
 go_wp2_with (refine Cf (by rfl) 29 _ rfl w7.heap.size 0 rfl gs _ rg Tryz.underlying29 rfl gsh.out ?_)
 refine HE.out.mono ?_
 rintro e wj ⟨rfl,bj⟩
 replace B1:=As (Below.and B1.out bj)
 replace TW:=As (TW.out.below bj)
 replace Xws:=As (stepB Xws.out bj)
 replace Xgs:=As (stepB Xgs.out bj)
 replace GM:=As (GM.out.below bj)
 replace HN:=As (HN.out.below bj)
 replace Xhs:=As (stepB Xhs.out bj)
 have zbj:=bj.size
 clear bj rg HE;go_wp2;go_ret;exact⟨rfl,B1.out⟩
end
section
open Go.RowKit

theorem Yf {W:World} {R:Nat} {a b c:Value} (hR:W.heap[R]? =some (.cells #[a,b,c] 44 (0,0))):W.cell? ⟨R,0,none⟩=some a/\W.cell? ⟨R,1,none⟩=some b/\W.cell? ⟨R,2,none⟩=some c:=by
 have h:=fun j=>cell_of_row W R j _ 44 (0,0) hR
 exact⟨by rw[h];rfl,by rw[h];rfl,by rw[h];rfl⟩

open Go.Lib in
theorem Wr (n:Nat) (w:World) (hn:n<=8388608) :
  Calls Tryz.prog 98 #[.slice none 0 0, .int .i64 n] w fun e w' =>∃v',e= .returned v' ∧w'.ownsRow w.heap.size 44 3 v' 0 []/\Below w.heap.size w w' :=by
 obtain⟨i0,hi0,hz0,hz1,hz2⟩:=info_parts Tryz.info44
 rcases Nat.eq_zero_or_pos n with rfl|hp
 ·go_enter Tryz.func98,Tryz.ntmps98
  go_wp2;go_ret;exact⟨_,rfl,World.ownsRow_nil _ _ _ _,Below.refl _ _⟩
 ·have hrz:∀ty,(Builtin.append_ #[27,3] ty #[.slice none 0 0, .int .i64 (n:Int)]).run Tryz.prog w =
    .ok (.slice (some ⟨w.heap.size,0,none⟩) n (grownCap w n 0 44)) (w.drew.alloc (.cells (#[]++Builtin.zeroCells (Value.agg #[.int .i64 0, .int .i64 0, .int .i64 0]).cells n++Builtin.zeroCells (Value.agg #[.int .i64 0, .int .i64 0, .int .i64 0]).cells (grownCap w n 0 44-n)) 44)):=fun ty=>by
   have h:=Lib.run_append_grow_zeros w 27 3 ty 44 i0 _ .i64 .i64 Tryz.underlying27 Tryz.underlying3 hi0 hz0 none 0 0 [] (run_firstCells_none w.drew i0.size 0 0 0) n hp (by rw[hz1];decide) (by omega) (by omega)
    (by rw[hz2];omega)
    (by rw[Nat.zero_add,hz2];exact growslice_fits hp (by omega))
   rw[Nat.zero_add] at h
   exact h
  have HRZ:Hid _:=hrz
  have hGn:n<=grownCap w n 0 44:=grownCap_ge w _ _ _
  have hG63:=grownCap_le_maxLen w n 0 44 (by unfold maxLen;omega)
  generalize grownCap w n 0 44=G at *
  have hb1:(0:Int)<(n:Int):=by omega
  have hb2:¬((n:Int)<0):=by omega
  have hgm:G<=9223372036854775807:=by
   have:=hG63
   unfold maxLen at this;omega
  have OW:Hid ((w.alloc (.cells (Builtin.zeroCells #[.int .i64 0, .int .i64 0, .int .i64 0] n++Builtin.zeroCells #[.int .i64 0, .int .i64 0, .int .i64 0] (G-n)) 44)).drew.ownsRow w.heap.size 44 3 (.slice (some ⟨w.heap.size,0,none⟩) 0 G) 0 []):=
   ⟨by simp, .inr ⟨w.heap.size,G,_,rfl,Nat.le_refl _,heap_alloc_new w _,Nat.zero_le _,hG63,by
    simp only[Array.size_append,size_zeroCells]
    show n*3+(G-n)*3=G*3
    omega,by simp⟩⟩
  clear hrz hG63;go_enter Tryz.func98,Tryz.ntmps98
  go_wp2_with (at_builtin;refine Lib.wpList_append_run _ rfl _ _ _ _ rfl _ _ rfl rfl _ _ (HRZ.out _) ?_)
  all_goals
   go_ret;exact⟨_,rfl,OW.out,((Below.refl _ _).alloc (Nat.le_refl _) _).drew⟩

theorem ME (b:Nat) (v1 v2:Value) (l1 l2:ML) (w:World) (hb:w.heap[b]? =some (.cells #[v1,v2] 27 (0,0))) (h1:Row w v1 l1.length (Ag l1)) (h2:Row w v2 l2.length (Ag l2)) (hn:l1.length+l2.length<=2097152) :
  Calls Tryz.prog 75 #[.slice (some ⟨b,0,none⟩) 2 2] w fun e w' =>∃v',e= .returned v' ∧w'.ownsRow w.heap.size 44 3 v' (l1++l2).length (Ag (l1++l2))/\Below w.heap.size w w' :=by
 obtain⟨i0,hi0,hz0,hz1,hz2⟩:=info_parts Tryz.info44
 obtain⟨a1,q1,rfl,_⟩:=h1.len
 obtain⟨a2,q2,rfl,_⟩:=h2.len
 have c0:w.cell? ⟨b,0,none⟩=some (.slice a1 l1.length q1):=by rw[cell_of_row w b 0 _ 27 (0,0) hb];rfl
 have c1:w.cell? ⟨b,1,none⟩=some (.slice a2 l2.length q2):=by rw[cell_of_row w b 1 _ 27 (0,0) hb];rfl
 have R1:Hid (Row w (.slice a1 l1.length q1) l1.length (Ag l1)):=h1
 have R2:Hid (Row w (.slice a2 l2.length q2) l2.length (Ag l2)):=h2
 have C0:Hid _:=c0
 have C1:Hid _:=c1
 clear h1 h2 hb;go_enter Tryz.func75,Tryz.ntmps75
 go_wp2;go_loopw [3,11] (fun sz i wr=>w=wr/\((i= .int .i64 0/\sz= .int .i64 0)∨(i= .int .i64 1/\sz= .int .i64 l1.length)∨(i= .int .i64 2/\sz= .int .i64 (l1.length+l2.length)))) (fun _ i _=>2-(intOf i).toNat)
 case atStart=>exact⟨rfl, .inl ⟨rfl,rfl⟩⟩
 case round=>
  obtain⟨rfl,hh⟩:=hrel
  rcases hh with⟨rfl,rfl⟩|⟨rfl,rfl⟩|⟨rfl,rfl⟩
  ·have hp:¬((l1.length:Int)<0):=by omega
   go_wp2;go_roundw
   case rel=>exact⟨trivial, .inr (.inl ⟨by go_num,by go_num⟩)⟩
   case measure=>simp[intOf]
  ·have hp:¬((l1.length:Int)+(l2.length:Int)<0):=by omega
   go_wp2;go_roundw
   case rel=>exact⟨trivial, .inr (.inr ⟨by go_num,by go_num⟩)⟩
   case measure=>simp[intOf]
  ·have hcast:((l1.length:Int)+(l2.length:Int))=((l1.length+l2.length:Nat):Int):=by omega
   have GA:Hid (Calls Tryz.prog 98 #[.slice none 0 0, .int .i64 ((l1.length:Int)+(l2.length:Int))] w fun e w' =>∃v',e= .returned v' ∧w'.ownsRow w.heap.size 44 3 v' 0 []/\Below w.heap.size w w'):=by
    rw[hcast]
    exact Wr (l1.length+l2.length) w (by omega)
   clear hcast;go_wp2_with fail;refine Calls.mono GA.out ?_
   rintro e w2 ⟨v2,rfl,o2,hb2⟩
   have O2:Hid (w2.ownsRow w.heap.size 44 3 v2 ([]:ML).length (Ag [])):=o2
   have B2:Hid (Below w.heap.size w w2):=hb2
   clear o2 hb2 c0 c1;go_wp2;go_loopw [6,27] (fun out i wr=>Hid (Below w.heap.size w wr)/\((i= .int .i64 0/\Hid (wr.ownsRow w.heap.size 44 3 out ([]:ML).length (Ag [])))∨(i= .int .i64 1/\Hid (wr.ownsRow w.heap.size 44 3 out l1.length (Ag l1)))∨(i= .int .i64 2/\Hid (wr.ownsRow w.heap.size 44 3 out (l1++l2).length (Ag (l1++l2)))))) (fun _ i _=>2-(intOf i).toNat)
   case atStart=>exact⟨B2, .inl ⟨rfl,O2⟩⟩
   case round=>
    obtain⟨BQ,hh⟩:=hrel
    clear O2 B2;rcases hh with⟨rfl,OQ⟩|⟨rfl,OQ⟩|⟨rfl,OQ⟩
    ·have d0:=Ab BQ.out (Aa C0.out) C0.out
     have RR:Hid _:=R1.out.below BQ.out
     have OW:=OQ.out
     have HR:Hid (0+l1.length<=maxLen/\(0+l1.length)*24<=140737488355328):=⟨by unfold maxLen;omega,by omega⟩
     have H1:Hid _:=Ga l1
     have HL:Hid _:=Dz l1
     have hbs:w.heap.size<=wr.heap.size:=BQ.out.size
     go_wp2_with (at_builtin;refine E7 wr rfl _ _ 27 rfl w.heap.size 44 i0 _ 3 24 Tryz.underlying27 hi0 hz0 hz1 hz2 rfl (by decide) u6 0 [] rfl OW (.slice a1 l1.length q1) l1.length (Ag l1) rfl RR.out HL.out H1.out HR.out.1 HR.out.2 hbs ?_)
     intro v5 w5 o5 _ b5;have FIN:Hid (w5.ownsRow w.heap.size 44 3 v5 l1.length (Ag l1)/\Below w.heap.size w w5):=⟨o5,BQ.out.trans b5⟩
     clear o5 b5 OW d0;go_wp2;go_roundw
     case rel=>exact⟨FIN.out.2, .inr (.inl ⟨by go_num,FIN.out.1⟩)⟩
     case measure=>simp[intOf]
    ·have d0:=Ab BQ.out (Aa C1.out) C1.out
     have RR:Hid _:=R2.out.below BQ.out
     have OW:=OQ.out
     have HR:Hid (l1.length+l2.length<=maxLen/\(l1.length+l2.length)*24<=140737488355328):=⟨by unfold maxLen;omega,by omega⟩
     have H1:Hid _:=Ga l2
     have HL:Hid _:=Dz l2
     have hbs:w.heap.size<=wr.heap.size:=BQ.out.size
     go_wp2_with (at_builtin;refine E7 wr rfl _ _ 27 rfl w.heap.size 44 i0 _ 3 24 Tryz.underlying27 hi0 hz0 hz1 hz2 rfl (by decide) u6 _ _ rfl OW (.slice a2 l2.length q2) l2.length (Ag l2) rfl RR.out HL.out H1.out HR.out.1 HR.out.2 hbs ?_)
     intro v5 w5 o5 _ b5;have FIN:Hid (w5.ownsRow w.heap.size 44 3 v5 (l1++l2).length (Ag (l1++l2))/\Below w.heap.size w w5):=⟨by rw[Cn,List.length_append];exact o5,BQ.out.trans b5⟩
     clear o5 b5 OW d0;go_wp2;go_roundw
     case rel=>exact⟨FIN.out.2, .inr (.inr ⟨by go_num,FIN.out.1⟩)⟩
     case measure=>simp[intOf]
    ·go_wp2;go_ret;exact⟨_,rfl,OQ.out,BQ.out⟩

theorem SJ (cs:List Int) (i:Nat) (ms:ML) (j:Nat) (h:j<ms.length):mineK cs i (ms.take (j+1))=if Fa cs (mK ms j) cs.length=i then mineK cs i (ms.take j)++[(mO ms j,mK ms j,mV ms j)] else mineK cs i (ms.take j):=by
 rw[DV ms j h,mineK,List.filter_append]
 by_cases hk:Fa cs (mK ms j) cs.length=i
 ·simp[hk,mineK]
 ·simp[hk,mineK]
theorem Jt (cs:List Int) (i:Nat) (ms:ML):(mineK cs i ms).length<=ms.length:=List.length_filter_le _ _

theorem GJ (vc:Value) (cs:List Int) (i:Nat) (vm:Value) (ms:ML) (w:World) (hc:Row w vc cs.length (Ac cs)) (hm:Row w vm ms.length (Ag ms)) (hn:ms.length<=2097152) :
  Calls Tryz.prog 76 #[vc, .int .i64 i,vm] w fun e w' =>∃v',e= .returned v' ∧w'.ownsRow w.heap.size 44 3 v' (mineK cs i ms).length (Ag (mineK cs i ms))/\Below w.heap.size w w' :=by
 obtain⟨i0,hi0,hz0,hz1,hz2⟩:=info_parts Tryz.info44
 obtain⟨a,b,off,cap,rfl,hcap,hmax,ha,ho,hk,hv⟩:=hm.msgs
 unfold maxLen at hmax;have RC:Hid (Row w vc cs.length (Ac cs)):=hc
 have MS:Hid (∀j,j<ms.length->mineK cs i (ms.take (j+1))=if Fa cs (mK ms j) cs.length=i then mineK cs i (ms.take j)++[(mO ms j,mK ms j,mV ms j)] else mineK cs i (ms.take j)):=fun j hj=>SJ cs i ms j hj
 have MF:Hid (mineK cs i (ms.take ms.length)=mineK cs i ms):=by
  show _=_
  rw[List.take_of_length_le (Nat.le_refl _)]
 have ML1:Hid (∀j,(mineK cs i (ms.take j)).length<=2097152):=fun j=>Nat.le_trans (Jt _ _ _) (Nat.le_trans (List.length_take_le' _ _) hn)
 have KA:Hid (∀(k:Int) (w1:World),Below w.heap.size w w1->Calls Tryz.prog 99 #[vc, .int .i64 k] w1 fun e w' =>e= .returned (.int .i64 (Fa cs k cs.length:Nat))/\Below w1.heap.size w1 w'):=fun k w1 hb=>JY vc cs k w1 (RC.out.below hb)
 rw[←MF.out]
 generalize hfo:(fun j=>mineK cs i (ms.take j))=fo
 have hfo' :∀j,mineK cs i (ms.take j)=fo j:=fun j=>by rw[←hfo]
 have M0:Hid (fo 0=[]):=by
  show _=_
  rw[←hfo];rfl
 simp only[hfo'] at MS MF ML1 ⊢
 clear hfo hfo' hc hm MF;go_enter Tryz.func76,Tryz.ntmps76
 go_wp2;go_loopw [7,12] (fun out ii wr=>∃j:Nat,j<=ms.length/\ii= .int .i64 j/\Hid (wr.ownsRow w.heap.size 44 3 out (fo j).length (Ag (fo j)))/\Hid (Below w.heap.size w wr))
  (fun _ ii _=>ms.length-(intOf ii).toNat)
 case atStart=>exact⟨0,Nat.zero_le _,rfl,by rw[M0.out];exact World.ownsRow_nil _ _ _ _,Below.refl _ _⟩
 case round=>
  obtain⟨j,hj,rfl,ON,BN⟩:=hrel
  by_cases hlt:j<ms.length
  ·have hal:=ha (by omega)
   subst hal;have d0:=Ab BN.out (Aa (ho j hlt)) (ho j hlt)
   have d1:=Ab BN.out (Aa (hk j hlt)) (hk j hlt)
   have d2:=Ab BN.out (Aa (hv j hlt)) (hv j hlt)
   have MS1:Hid _:=MS.out j hlt
   have hml:=ML1.out j
   have BA:Hid (Below w.heap.size w (wr.alloc (.cells #[.int .i64 (mO ms j), .int .i64 (mK ms j), .int .i64 (mV ms j)] 44))):=BN.out.alloc BN.out.size _
   have OA:Hid _:=ON.out.alloc (.cells #[.int .i64 (mO ms j), .int .i64 (mK ms j), .int .i64 (mV ms j)] 44)
   have MA:Hid _:=heap_alloc_new wr (.cells #[.int .i64 (mO ms j), .int .i64 (mK ms j), .int .i64 (mV ms j)] 44)
   have KC:Hid _:=KA.out (mK ms j) _ BA.out
   generalize mO ms j=x0 at *
   generalize mK ms j=x1 at *
   generalize mV ms j=x2 at *
   clear ho hk hv ha ON BN;generalize hcn:Fa cs x1 cs.length=CN at *
   go_wp2_with fail;refine Calls.mono KC.out ?_
   rintro e w1 ⟨rfl,b1⟩
   have B1:Hid (Below w.heap.size w w1):=Below.and BA.out b1
   have O1:Hid (w1.ownsRow w.heap.size 44 3 u7 (fo j).length (Ag (fo j))):=AD OA.out b1
   have M1:Hid (w1.heap[wr.heap.size]? =some (.cells #[.int .i64 x0, .int .i64 x1, .int .i64 x2] 44 (0,0))):=by
    show _=_
    rw[b1.block _ (by simp)];exact MA.out
   obtain⟨m0,m1,m2⟩:=Yf M1.out
   clear d0 d1 d2 b1 BA OA MA;by_cases hq:CN=i
   ·subst hq;have DS:Hid (fo (j+1)=fo j++[(x0,x1,x2)]):=MS1.out.trans (if_pos rfl)
    have HR:Hid _:=Bn (n:=(fo j).length) (bytes:=24) (by omega) (by decide)
    have H1:Hid _:=JW x0 x1 x2
    have hbs:w.heap.size<=w1.heap.size:=B1.out.size
    have OW:=O1.out
    clear MS1;go_wp2_with (at_builtin;refine BJ w1 rfl _ _ 27 rfl w.heap.size 44 i0 _ 3 24 Tryz.underlying27 hi0 hz0 hz1 hz2 rfl (by decide) u7 _ _ rfl OW [.int .i64 x0, .int .i64 x1, .int .i64 x2] rfl rfl H1.out HR.out.1 HR.out.2 hbs ?_)
    intro v5 w5 o5 _ b5;have FIN:Hid _:=And.intro o5 (B1.out.trans b5)
    clear o5 b5 OW m0 m1 m2;go_wp2;go_roundw
    case rel=>exact⟨j+1,by omega,by go_num,by rw[DS.out,Cn,List.length_append];exact FIN.out.1,FIN.out.2⟩
    case measure=>simp[intOf];omega
   ·have DS:Hid (fo (j+1)=fo j):=MS1.out.trans (if_neg hq)
    have e4:((CN:Int)==(i:Int))=false:=by rw[beq_eq_false_iff_ne];omega
    clear MS1;go_wp2;go_roundw
    case rel=>exact⟨j+1,by omega,by go_num,by rw[DS.out];exact O1,B1⟩
    case measure=>simp[intOf];omega
  ·have hjj:j=ms.length:=by omega
   have ON' :Hid (wr.ownsRow w.heap.size 44 3 u7 (fo ms.length).length (Ag (fo ms.length))):=by rw[←hjj];exact ON
   clear ho hk hv ha;go_wp2;go_ret;exact⟨_,rfl,ON'.out,BN.out⟩
end
end Go.Proofs.YtebglpllkjgjbaaGreat
