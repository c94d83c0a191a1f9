/-
  The contract of the model's DrawInject.
  Contracts of the laws' own functions that hold two trees against each other.
  The laws' own sameInts, samePairs, sameMsgs of two rows of the same.
  The laws' own sameTree of two trees that are the same.
  The laws' own big.
  The program's MapDo.
  The program's Inject.
-/
import Derived.Test.YtnakaabnjelffaaGreatOfInject44
import Derived.Test.YtnakaabnjelffaaGreatOfInject26
import Derived.Test.YtnakaabnjelffaaGreatOfInject3
import Derived.Test.YtnakaabnjelffaaGreatOfInject6
import Derived.Laws.StructEq
import Derived.BigQuiet
import Derived.Deep.QuietTactic
import Derived.Test.YtnakaabnjelffaaGreatOfInject17
import Derived.Test.YtnakaabnjelffaaGreatOfInject20
import Derived.Test.YtnakaabnjelffaaGreatOfInject11
import Derived.Test.YtnakaabnjelffaaGreatOfInject42
import Derived.Test.YtnakaabnjelffaaGreatOfInject41
namespace Go.Proofs.YtnakaabnjelffaaGreat
set_option maxRecDepth 100000
set_option maxHeartbeats 8000000
section
open Go.RowKit

structure DJ (w:World) (C NT:Nat) (y:TV) (T:Tr) (rs:List Value) (ms:Array Value) (u:World):Prop where
 b:Below w.heap.size w u
 t:Bx u NT y.cells
 r:Bx u w.heap.size rs
 m:He u (w.heap.size+1) ms
 f:Aq 8 u (fun g=>w.heap.size+2<=g/\g≠C/\g<NT) y T
 c:w.heap.size+2<=C/\C<NT
theorem DJ.turn {w u u' :World} {C NT:Nat} {y:TV} {T:Tr} {rs:List Value} {ms:Array Value} (h:DJ w C NT y T rs ms u) (hg:Chg (fun g=>g=C) u u'):DJ w C NT y T rs ms u' :=by
 have hc:=h.c
 exact⟨h.b.trans (hg.below (fun g _ e=>by omega) h.b.size),⟨Bf h.t.1 hg (fun (e:_=_)=>by omega),h.t.2⟩,⟨Bf h.r.1 hg (fun (e:_=_)=>by omega),h.r.2⟩,Bf h.m hg (fun (e:_=_)=>by omega),h.f.chg hg (fun g hg e=>hg.2.1 e),hc⟩
theorem DJ.setR {w u:World} {C NT:Nat} {y:TV} {T:Tr} {rs:List Value} {ms:Array Value} (h:DJ w C NT y T rs ms u):DJ w C NT y T y.cells ms (u.setCells w.heap.size 0 y.cells):=by
 have hc:=h.c
 have hg:Chg (fun b=>b=w.heap.size) u (u.setCells w.heap.size 0 y.cells):=Chg.setCells (F:=fun b=>b=w.heap.size) (g:=w.heap.size) (fun _=>rfl) y.cells 0 u (Chg.refl _ _)
 exact⟨h.b.trans (hg.below (fun g _ e=>by omega) h.b.size),⟨Bf h.t.1 hg (fun (e:_=_)=>by omega),h.t.2⟩,h.r.set rfl,Bf h.m hg (fun (e:_=_)=>by omega),h.f.chg hg (fun g hg e=>by have:=hg.1;omega),hc⟩
theorem DJ.setM {w u:World} {C NT:Nat} {y:TV} {T:Tr} {rs:List Value} {a b c o k v:Value} (h:DJ w C NT y T rs #[a,b,c] u):DJ w C NT y T rs #[o,k,v] (u.setCells (w.heap.size+1) 0 [o,k,v]):=by
 have hc:=h.c
 have hg:Chg (fun b=>b=w.heap.size+1) u (u.setCells (w.heap.size+1) 0 [o,k,v]):=Chg.setCells (F:=fun b=>b=w.heap.size+1) (g:=w.heap.size+1) (fun _=>rfl) [o,k,v] 0 u (Chg.refl _ _)
 exact⟨h.b.trans (hg.below (fun g _ e=>by omega) h.b.size),⟨Bf h.t.1 hg (fun (e:_=_)=>by omega),h.t.2⟩,⟨Bf h.r.1 hg (fun (e:_=_)=>by omega),h.r.2⟩,Yz h.m [o,k,v] rfl,h.f.chg hg (fun g hg e=>by have:=hg.1;omega),hc⟩

theorem US {P:Program} {fn:Func} {p q:Tmp} {ty ty2:TypeId} (h:fn.results= #[.cell p ty, .cell q ty2]) (tmps:Array Value) (w:World) (g f:Nat) (t t2:TypeId) (cs ds:Array Value) (fr fr2:Nat × Nat) (d d2:TypeDesc)
  (hp:tmps.getD p undef= .pointer (some ⟨g,0,none⟩)) (hg:w.heap[g]? =some (.cells cs t fr)) (hq:tmps.getD q undef= .pointer (some ⟨f,0,none⟩)) (hf:w.heap[f]? =some (.cells ds t2 fr2))
  (hu:P.underlying ty=some d) (hd:(match d with| .struct _| .array _ _=>true|_=>false)=true) (hi:(P.info? ty).map (·.size)=some cs.size)
  (hu2:P.underlying ty2=some d2) (hd2:(match d2 with| .struct _| .array _ _=>true|_=>false)=true) (hi2:(P.info? ty2).map (·.size)=some ds.size) :
  (results fn tmps).run P w= .ok (.tuple #[.agg cs, .agg ds]) w:=by
 have hp' :tmps[p]?.getD undef= .pointer (some ⟨g,0,none⟩):=by simpa using hp
 have hq' :tmps[q]?.getD undef= .pointer (some ⟨f,0,none⟩):=by simpa using hq
 simp[results,h,hp',hq',asAddr,run_loadVar_row w g t ty cs fr d hg hu hd hi,run_loadVar_row w f t2 ty2 ds fr2 d2 hf hu2 hd2 hi2]
theorem Q2 (args:Array Value) (w:World):(callFunc 20 args).run Tryz.prog w= .ok (.enter 20 args) w:=by go_simp

theorem Mt (v:Value) (bs:List Int) (w:World) (hcode:Kd w v bs) (hn:bs.length<=1048576) :
  Calls Tryz.prog 5 #[v] w fun e w' =>∃(y:TV) (T:Tr) (o k x:Int),e= .returned (.tuple #[y.val, .agg #[.int .i64 o, .int .i64 k, .int .i64 x]])/\Az 8 T<=100000/\(okT T=true->wtT T<=92)/\Aq 8 w' (fun g=>w.heap.size<=g) y T/\Below w.heap.size w w' :=by
 have CO:=hid (fun u (hu:Below w.heap.size w u)=>hcode.below hu)
 have B0:=hid (Below.and (al1 w (.cells zcs.toArray 29)) (al1 (w.alloc (.cells zcs.toArray 29)) (.cells #[.int .i64 0, .int .i64 0, .int .i64 0] 31)))
 have R0:=hid ((Bx.start w (cs:=zcs) rfl).step (al1 _ (.cells #[.int .i64 0, .int .i64 0, .int .i64 0] 31)))
 have M0:Hid (He ((w.alloc (.cells zcs.toArray 29)).alloc (.cells #[.int .i64 0, .int .i64 0, .int .i64 0] 31)) (w.heap.size+1) #[.int .i64 0, .int .i64 0, .int .i64 0]):=by
  have:=heap_alloc_new (w.alloc (.cells zcs.toArray 29)) (.cells #[.int .i64 0, .int .i64 0, .int .i64 0] 31)
  rwa [World.size_alloc] at this
 have Z0:Hid (w.heap.size+2=((w.alloc (.cells zcs.toArray 29)).alloc (.cells #[.int .i64 0, .int .i64 0, .int .i64 0] 31)).heap.size):=by show _=_;simp
 clear hcode;have HN:=hid hn
 clear hn;go_enter Tryz.func5,Tryz.ntmps5
 go_upto_region 1 with fail
 refine Cj (fun u=>Below w.heap.size w u/\Bx u w.heap.size zcs/\He u (w.heap.size+1) #[.int .i64 0, .int .i64 0, .int .i64 0]/\w.heap.size+2=u.heap.size) ⟨B0.out,R0.out,M0.out,Z0.out⟩ ?_
 rintro V ⟨hb,hr,hm,hz⟩
 clear B0 R0 M0 Z0;have I0:=hid (And.intro hb (And.intro hr (And.intro hm hz)))
 clear hb hr hm hz;go_wp2_with fail;refine(VH v bs _ (CO.out _ I0.out.1) HN.out).mono ?_
 rintro e w1 ⟨rfl,c1,hlt,b1⟩
 have I1:=hid (And.intro (Below.and I0.out.1 b1) (And.intro (I0.out.2.1.step b1) (I0.out.2.2.1.step b1)))
 have CC:=hid (And.intro (show w.heap.size+2<=V.heap.size from Nat.le_of_eq I0.out.2.2.2) hlt)
 have C1:=hid c1
 clear c1 hlt b1 I0;generalize V.heap.size=C at *
 have HD:=hid (VY C v bs w1 C1.out (CO.out _ I1.out.1) HN.out)
 go_wp2_with fail;refine Calls.mono HD.out ?_
 rintro e w2 ⟨y,T,rfl,hsz,hwt,TF,c2,G2⟩
 have SW:=hid (And.intro hsz hwt)
 have J2:Hid (∀cs,cs=y.cells->DJ w C w2.heap.size y T zcs #[.int .i64 0, .int .i64 0, .int .i64 0] (w2.alloc (.cells cs.toArray 29))/\Cur (w2.alloc (.cells cs.toArray 29)) C):=by
  rintro cs rfl
  have h1:=I1.out
  have h2:=CC.out
  have hs:=G2.size
  have hb:=h1.1.trans (G2.below (fun g _ e=>by omega) h1.1.size)
  have al:=al1 w2 (.cells y.cells.toArray 29)
  exact⟨⟨Below.and hb al,Bx.start w2 rfl,Bx.step ⟨Bf h1.2.1.1 G2 (fun (e:_=_)=>by omega),h1.2.1.2⟩ al,He.step (Bf h1.2.2 G2 (fun (e:_=_)=>by omega)) al,((TF.lt).below al).mono (fun g hg=>⟨by omega,by omega,by omega⟩),by omega⟩,c2.below al⟩
 obtain⟨ya1,ya2,ya3,ya4,yq1,yq2,yq3,yq4,hyy⟩:=TF.treeAt.shape
 have ON:=hid TF.treeAt.ones
 clear hsz hwt TF c2 G2 HD I1 CC C1 CO HN;have hval:y.val= .agg #[.bool T.leaf, .slice ya1 T.pairs.length yq1, .slice ya2 T.cuts.length yq2, .slice ya3 T.kids.length yq3, .slice ya4 T.buf.length yq4]:=by rw[hyy]
 rw[hval]
 clear hval;go_upto_region 3 with fail
 refine Cj (fun u=>DJ w C w2.heap.size y T zcs #[.int .i64 0, .int .i64 0, .int .i64 0] u/\Cur u C) (J2.out _ (by rw[hyy];rfl)) ?_
 rintro V ⟨hJ,hC⟩
 have JV:=hid (And.intro hJ hC)
 clear hJ hC J2 hyy;generalize w2.heap.size=NT at *
 refine AF (fun u=>Bx u NT y.cells) [_,_,_,_] _ rfl (by kernel_rfl) (by kernel_rfl) ?_
 have JD:=hid (And.intro (JV.out.1.turn (Chg.of_below (F:=fun g=>g=C) (Below.refl _ V).drew)) (JV.out.2.below (Below.refl _ V).drew))
 clear JV;generalize V.drew=wd at *
 refine tk 0 (oi:=⟨_,_,_,_,_,_⟩) (v:= .agg y.cells.toArray) rfl (by kernel_rfl) (fun _ _ _ h=>h) (yieldsIf_load_mid rfl _ _ rfl NT 0 rfl y.cells _ (fun u h=>h.rg) Tryz.underlying29 rfl (BG y.cells_len)) JD.out.1.t ?_
 simp only[Act.put,sA,sB,sC]
 refine tk 1 (oi:=⟨_,_,_,_,_,_⟩) (v:= .pointer (some ⟨C,0,none⟩)) rfl (by kernel_rfl) (fun _ _ _ h=>h) (Or.inl ⟨by rfl,fun u hu=>by go_simp⟩) JD.out.1.t ?_
 simp only[Act.put,sA,sB,sC]
 refine rq 2 (by kernel_rfl) rfl (fun K hK=> ?_)
 refine(if_pos (show Region.wanted _ _=true by kernel_rfl)).mpr ?_
 refine Be 20 [.tmp 12] #[44] rfl Q2 [.pointer (some ⟨C,0,none⟩)] rfl (IU C wd JD.out.2) ?_
 rintro e w3 ⟨o,k,x,rfl,c3,g3⟩
 have J3:=hid (JD.out.1.turn g3)
 refine⟨_,rfl,hK.out _ _ J3.out.t (fun _=> ?_)⟩
 clear hK K c3 g3 JD;simp only[Act.put,sA,sB,sC]
 refine rq 3 (by kernel_rfl) rfl (fun K hK=> ?_)
 refine(if_pos (show Region.wanted _ _=true by kernel_rfl)).mpr ?_
 have J4:=hid J3.out.setR
 refine wp_store_mid 29 _ _ rfl w.heap.size 0 y.cells.toArray rfl rfl (J3.out.r.there rfl) (BG y.cells_len) J3.out.f.treeAt.ones (hK.out _ _ J4.out.t (fun _=> ?_))
 clear hK K J3;try simp only[Act.put]
 refine wpAnyH_done (by kernel_rfl) ?_ _
 show Oper.wp _ _ _ _ _ _
 have hm:=J4.out.m
 have J5:=hid (J4.out.setM (o:= .int .i64 o) (k:= .int .i64 k) (v:= .int .i64 x))
 refine wp_store_mid 31 _ _ rfl (w.heap.size+1) 0 #[.int .i64 o, .int .i64 k, .int .i64 x] rfl rfl (W5 hm rfl) (show(Tryz.prog.info? 31).map (·.size)=some 3 by kernel_rfl) (by simp[Value.oneCell']) ?_
 clear hm J4;change Hid (DJ w C NT y T y.cells _ (World.setCells _ _ 0 [.int .i64 o, .int .i64 k, .int .i64 x])) at J5
 go_wp2_with fail;refine⟨rfl,_,US Tryz.results5 _ _ w.heap.size (w.heap.size+1) 29 31 y.cells.toArray #[.int .i64 o, .int .i64 k, .int .i64 x] (0,0) (0,0) _ _ rfl J5.out.r.1 rfl J5.out.m Tryz.underlying29 rfl (BG y.cells_len) Tryz.underlying31 rfl (by kernel_rfl), ?_⟩

 exact⟨y,⟨o,k,x,rfl⟩,T,SW.out.1,SW.out.2,J5.out.f.mono (fun g hg=>by have:=hg.1;omega),J5.out.b⟩
end
section
open Go.RowKit

structure Jv (u:World) (B:Nat) (A Z:Array Value):Prop where
 h0:u.heap[B]? =some (.cells A 29 (0,0))
 h1:u.heap[B+1]? =some (.cells Z 29 (0,0))
theorem Jv.step {u w' :World} {B:Nat} {A Z:Array Value} (h:Jv u B A Z) (hb:Below u.heap.size u w'):Jv w' B A Z:=by
 have hs:=(Array.getElem?_eq_some_iff.1 h.h1).1
 exact⟨(hb.block _ (by omega)).trans h.h0,(hb.block _ (by omega)).trans h.h1⟩
theorem Jv.cells {u:World} {B:Nat} {A Z:Array Value} (h:Jv u B A Z):(∀j,u.cell? ⟨B,j,none⟩=A[j]?)/\(∀j,u.cell? ⟨B+1,j,none⟩=Z[j]?):=
 ⟨fun j=>cell_of_row u B j A 29 (0,0) h.h0,fun j=>cell_of_row u (B+1) j Z 29 (0,0) h.h1⟩
theorem Jv.start (w:World) (A Z:Array Value):Jv ((w.alloc (.cells A 29)).alloc (.cells Z 29)) w.heap.size A Z:=by
 have e:∀(x:World) (o:Obj),(x.alloc o).heap.size=x.heap.size+1:=fun x o=>by simp
 have k1:∀(x:World) (o:Obj) (g:Nat),g<x.heap.size->(x.alloc o).heap[g]? =x.heap[g]? :=fun x o g hg=>((Below.refl x.heap.size x).alloc (Nat.le_refl _) o).block g hg
 refine⟨?_, ?_⟩
 ·rw[k1 _ _ _ (by rw[e];omega)];exact heap_alloc_new w _
 ·rw[←e w (.cells A 29)];exact heap_alloc_new _ _
end
section
open Go.RowKit

theorem Tryz.neqM0 (a b c:Int) (w:World):(binOp .neq 31 (.agg #[.int .i64 a, .int .i64 b, .int .i64 c]) (.agg #[.int .i64 a, .int .i64 b, .int .i64 c])).run Tryz.prog w= .ok (.bool false) w:=by
 have u3:=Tryz.underlying3
 have a3:=Tryz.isAgg3
 have z3:=Tryz.sizeOf3
 have hS:Tryz.prog.underlying 31=some (.struct (Tryz.prog.fieldsOf 31)):=by kernel_rfl
 have hp:Tryz.prog.stoodInHeld 31=false:=by kernel_rfl
 rw[run_neq_struct,show(10000:Nat)=9999+1 from rfl,run_equalIn_agg w 9999 31 _ _ hS hp]
 simp only[Program.fieldsOf,Tryz.underlying31]
 go_simp
theorem Tryz.neqP0 (a b:Int) (w:World):(binOp .neq 63 (.agg #[.int .i64 a, .int .i64 b]) (.agg #[.int .i64 a, .int .i64 b])).run Tryz.prog w= .ok (.bool false) w:=by
 have u3:=Tryz.underlying3
 have a3:=Tryz.isAgg3
 have z3:=Tryz.sizeOf3
 have hS:Tryz.prog.underlying 63=some (.struct (Tryz.prog.fieldsOf 63)):=by kernel_rfl
 have hp:Tryz.prog.stoodInHeld 63=false:=by kernel_rfl
 rw[run_neq_struct,show(10000:Nat)=9999+1 from rfl,run_equalIn_agg w 9999 63 _ _ hS hp]
 simp only[Program.fieldsOf,Tryz.underlying63]
 go_simp
theorem Tryz.guardM0:Tryz.prog.eqGuardType Tryz.prog.depth 31=false:=by kernel_rfl
theorem Tryz.guardP0:Tryz.prog.eqGuardType Tryz.prog.depth 63=false:=by kernel_rfl

theorem NI (v1 v2:Value) (l:List Int) (w:World) (h1:Row w v1 l.length (Ab l)) (h2:Row w v2 l.length (Ab l)) :
  Calls Tryz.prog 26 #[v1,v2] w fun e w' =>e= .returned (.bool true)/\Below w.heap.size w w' :=by
 obtain⟨a,b,off,cap,rfl,hcap,hmax,ha,hk⟩:=h1.ints
 obtain⟨a2,b2,off2,cap2,rfl,hcap2,hmax2,ha2,hj⟩:=h2.ints
 unfold maxLen at hmax hmax2;go_enter Tryz.func26,Tryz.ntmps26
 go_wp2;go_loopw [5] (fun i wr=>∃k:Nat,k<=l.length/\i= .int .i64 k/\Below w.heap.size w wr)
  (fun i _=>l.length-(intOf i).toNat)
 case atStart=>exact⟨0,Nat.zero_le _,rfl,Below.refl _ _⟩
 case round=>
  obtain⟨k,hkl,rfl,hb⟩:=hrel
  by_cases hlt:k<l.length
  ·have hal:=ha (by omega)
   subst hal;have hal2:=ha2 (by omega)
   subst hal2;have d_hk:=(hb.cell (by exact Aa (hk k hlt))).trans (hk k hlt)
   have d_hj:=(hb.cell (by exact Aa (hj k hlt))).trans (hj k hlt)
   clear ha ha2 hk hj;have hq:(iAt l k != iAt l k)=false:=by simp
   go_wp2;go_quiet (fail)
   go_wp2;go_roundw
   case rel=>exact⟨k+1,by omega,by go_num,below_drewN hb _⟩
   case measure=>simp[intOf];omega
  ·go_wp2;go_ret;exact⟨rfl,hb⟩

theorem E9 (v1 v2:Value) (l:PL) (w:World) (h1:Row w v1 l.length (Au l)) (h2:Row w v2 l.length (Au l)) :
  Calls Tryz.prog 13 #[v1,v2] w fun e w' =>e= .returned (.bool true)/\Below w.heap.size w w' :=by
 obtain⟨a,b,off,cap,rfl,hcap,hmax,ha,hk,hkv⟩:=h1.pairs
 obtain⟨a2,b2,off2,cap2,rfl,hcap2,hmax2,ha2,hj,hjv⟩:=h2.pairs
 unfold maxLen at hmax hmax2;go_enter Tryz.func13,Tryz.ntmps13
 go_wp2;go_loopw [5] (fun i wr=>∃k:Nat,k<=l.length/\i= .int .i64 k/\Below w.heap.size w wr)
  (fun i _=>l.length-(intOf i).toNat)
 case atStart=>exact⟨0,Nat.zero_le _,rfl,Below.refl _ _⟩
 case round=>
  obtain⟨k,hkl,rfl,hb⟩:=hrel
  by_cases hlt:k<l.length
  ·have hal:=ha (by omega)
   subst hal;have hal2:=ha2 (by omega)
   subst hal2;have d_hk:=(hb.cell (by exact Aa (hk k hlt))).trans (hk k hlt)
   have d_hkv:=(hb.cell (by exact Aa (hkv k hlt))).trans (hkv k hlt)
   have d_hj:=(hb.cell (by exact Aa (hj k hlt))).trans (hj k hlt)
   have d_hjv:=(hb.cell (by exact Aa (hjv k hlt))).trans (hjv k hlt)
   clear ha ha2 hk hkv hj hjv;have hg:=Tryz.guardP0
   have hq:=Tryz.neqP0 (kOf l k) (vOf l k)
   go_wp2;go_quiet (fail)
   go_wp2;go_roundw
   case rel=>exact⟨k+1,by omega,by go_num,below_drewN hb _⟩
   case measure=>simp[intOf];omega
  ·go_wp2;go_ret;exact⟨rfl,hb⟩

theorem Nx (v1 v2:Value) (l:ML) (w:World) (h1:Row w v1 l.length (Al l)) (h2:Row w v2 l.length (Al l)) :
  Calls Tryz.prog 27 #[v1,v2] w fun e w' =>e= .returned (.bool true)/\Below w.heap.size w w' :=by
 obtain⟨a,b,off,cap,rfl,hcap,hmax,ha,hk,hkv,hkw⟩:=h1.msgs
 obtain⟨a2,b2,off2,cap2,rfl,hcap2,hmax2,ha2,hj,hjv,hjw⟩:=h2.msgs
 unfold maxLen at hmax hmax2;go_enter Tryz.func27,Tryz.ntmps27
 go_wp2;go_loopw [5] (fun i wr=>∃k:Nat,k<=l.length/\i= .int .i64 k/\Below w.heap.size w wr)
  (fun i _=>l.length-(intOf i).toNat)
 case atStart=>exact⟨0,Nat.zero_le _,rfl,Below.refl _ _⟩
 case round=>
  obtain⟨k,hkl,rfl,hb⟩:=hrel
  by_cases hlt:k<l.length
  ·have hal:=ha (by omega)
   subst hal;have hal2:=ha2 (by omega)
   subst hal2;have d_hk:=(hb.cell (by exact Aa (hk k hlt))).trans (hk k hlt)
   have d_hkv:=(hb.cell (by exact Aa (hkv k hlt))).trans (hkv k hlt)
   have d_hkw:=(hb.cell (by exact Aa (hkw k hlt))).trans (hkw k hlt)
   have d_hj:=(hb.cell (by exact Aa (hj k hlt))).trans (hj k hlt)
   have d_hjv:=(hb.cell (by exact Aa (hjv k hlt))).trans (hjv k hlt)
   have d_hjw:=(hb.cell (by exact Aa (hjw k hlt))).trans (hjw k hlt)
   clear ha ha2 hk hkv hkw hj hjv hjw;have hg:=Tryz.guardM0
   have hq:=Tryz.neqM0 (mO l k) (mK l k) (mV l k)
   go_wp2;go_quiet (fail)
   go_wp2;go_roundw
   case rel=>exact⟨k+1,by omega,by go_num,below_drewN hb _⟩
   case measure=>simp[intOf];omega
  ·go_wp2;go_ret;exact⟨rfl,hb⟩
end
section
open Go.RowKit

def Ml (n:Nat):Prop:=∀(x y:TV) (T:Tr) (w:World),AO n w x T->AO n w y T→
  Calls Tryz.prog 7 #[x.val,y.val] w fun e w' =>e= .returned (.bool true)/\Below w.heap.size w w'

theorem R5 {n:Nat} (H:Ml n):Ml (n+1):=by
 intro x y T w ht hu;obtain⟨-,hp,hc,hb,hk⟩:=ht.parts
 obtain⟨a1,a2,a3,a4,q1,q2,q3,q4,hx⟩:=ht.shape
 subst hx;obtain⟨-,gp,gc,gb,gk⟩:=hu.parts
 obtain⟨b1,b2,b3,b4,p1,p2,p3,p4,hy⟩:=hu.shape
 subst hy;simp only at hp hc hb hk gp gc gb gk
 obtain⟨xs,hxl,hrow,hel⟩:=hk
 obtain⟨ys,hyl,hrow2,hel2⟩:=gk
 obtain⟨a,bx,off,cap,hv1,hcap,hmax,ha,c0,c1,c2,c3,c4⟩:=hrow.trees
 obtain⟨a',by2,off2,cap2,hv2,hcap2,hmax2,ha2,g0,g1,g2,g3,g4⟩:=hrow2.trees
 simp only[Value.slice.injEq] at hv1 hv2
 obtain⟨rfl, -,rfl⟩:=hv1
 obtain⟨rfl, -,rfl⟩:=hv2
 unfold maxLen at hmax hmax2;have R:=hid (And.intro hp (And.intro gp (And.intro hc (And.intro gc (And.intro hb gb)))))
 have HX:Hid (xs.length=T.kids.length/\ys.length=T.kids.length):=⟨hxl,hyl⟩
 have S0:=hid (Jv.start w #[.bool T.leaf, .slice a1 T.pairs.length q1, .slice a2 T.cuts.length q2, .slice a3 T.kids.length q3, .slice a4 T.buf.length q4] #[.bool T.leaf, .slice b1 T.pairs.length p1, .slice b2 T.cuts.length p2, .slice b3 T.kids.length p3, .slice b4 T.buf.length p4])
 have B0:=hid (al2 w (.cells #[.bool T.leaf, .slice a1 T.pairs.length q1, .slice a2 T.cuts.length q2, .slice a3 T.kids.length q3, .slice a4 T.buf.length q4] 29) (.cells #[.bool T.leaf, .slice b1 T.pairs.length p1, .slice b2 T.cuts.length p2, .slice b3 T.kids.length p3, .slice b4 T.buf.length p4] 29))
 have E:=hid (And.intro hel (And.intro hel2 (And.intro hrow hrow2)))
 have hm1:T.kids.length<=q3:=by omega
 have hm2:T.kids.length<=p3:=by omega
 have CC:=hid (And.intro c0 (And.intro c1 (And.intro c2 (And.intro c3 c4))))
 have GG:=hid (And.intro g0 (And.intro g1 (And.intro g2 (And.intro g3 g4))))
 clear ht hu hp hc hb gp gc gb hel hel2 hrow hrow2 hxl hyl c0 c1 c2 c3 c4 g0 g1 g2 g3 g4 hcap hcap2;show Calls Tryz.prog 7 #[.agg #[.bool T.leaf, .slice a1 T.pairs.length q1, .slice a2 T.cuts.length q2, .slice a3 T.kids.length q3, .slice a4 T.buf.length q4], .agg #[.bool T.leaf, .slice b1 T.pairs.length p1, .slice b2 T.cuts.length p2, .slice b3 T.kids.length p3, .slice b4 T.buf.length p4]] w _
 have hb1:(T.leaf != T.leaf)=false:=by simp
 have hl1:((T.kids.length:Int) != (T.kids.length:Int))=false:=by simp
 obtain⟨k0,k1⟩:=S0.out.cells
 go_enter Tryz.func7,Tryz.ntmps7
 go_wp2_with fail;refine(E9 _ _ _ _ (R.out.1.below B0.out) (R.out.2.1.below B0.out)).mono ?_
 rintro e w1 ⟨rfl,b1'⟩
 have B1:=hid (Below.and B0.out b1')
 have S1:=hid (S0.out.step b1')
 clear B0 S0 b1' k0 k1;obtain⟨k0,k1⟩:=S1.out.cells
 go_wp2_with fail;refine(NI _ _ _ _ (R.out.2.2.1.below B1.out) (R.out.2.2.2.1.below B1.out)).mono ?_
 rintro e w2 ⟨rfl,b2'⟩
 have B2:=hid (Below.and B1.out b2')
 have S2:=hid (S1.out.step b2')
 clear B1 S1 b2' k0 k1;obtain⟨k0,k1⟩:=S2.out.cells
 go_wp2_with fail;refine(Nx _ _ _ _ (R.out.2.2.2.2.1.below B2.out) (R.out.2.2.2.2.2.below B2.out)).mono ?_
 rintro e w3 ⟨rfl,b3'⟩
 have B3:=hid (Below.and B2.out b3')
 have S3:=hid (S2.out.step b3')
 clear B2 S2 b3' k0 k1;obtain⟨k0,k1⟩:=S3.out.cells
 go_wp2_with fail;go_loopw [5] (fun i wr=>∃k:Nat,k<=T.kids.length/\i= .int .i64 k/\Hid (Jv wr w.heap.size #[.bool T.leaf, .slice a1 T.pairs.length q1, .slice a2 T.cuts.length q2, .slice a3 T.kids.length q3, .slice a4 T.buf.length q4] #[.bool T.leaf, .slice b1 T.pairs.length p1, .slice b2 T.cuts.length p2, .slice b3 T.kids.length p3, .slice b4 T.buf.length p4])/\Below w.heap.size w wr)
  (fun i _=>T.kids.length-(intOf i).toNat)
 case atStart=>exact⟨0,Nat.zero_le _,rfl,S3,B3.out⟩
 case round=>
  obtain⟨k,hkl,rfl,S,hb⟩:=hrel
  clear S3 B3 k0 k1 R hb1;obtain⟨k0,k1⟩:=S.out.cells
  by_cases hlt:k<T.kids.length
  ·have hx1:=HX.out.1
   have hx2:=HX.out.2
   have hal:=ha (by omega)
   subst hal;have hal2:=ha2 (by omega)
   subst hal2;have d0:=(hb.cell (Aa (CC.out.1 k (by omega)))).trans (CC.out.1 k (by omega))
   have d1:=(hb.cell (Aa (CC.out.2.1 k (by omega)))).trans (CC.out.2.1 k (by omega))
   have d2:=(hb.cell (Aa (CC.out.2.2.1 k (by omega)))).trans (CC.out.2.2.1 k (by omega))
   have d3:=(hb.cell (Aa (CC.out.2.2.2.1 k (by omega)))).trans (CC.out.2.2.2.1 k (by omega))
   have d4:=(hb.cell (Aa (CC.out.2.2.2.2 k (by omega)))).trans (CC.out.2.2.2.2 k (by omega))
   have e0:=(hb.cell (Aa (GG.out.1 k (by omega)))).trans (GG.out.1 k (by omega))
   have e1:=(hb.cell (Aa (GG.out.2.1 k (by omega)))).trans (GG.out.2.1 k (by omega))
   have e2:=(hb.cell (Aa (GG.out.2.2.1 k (by omega)))).trans (GG.out.2.2.1 k (by omega))
   have e3:=(hb.cell (Aa (GG.out.2.2.2.1 k (by omega)))).trans (GG.out.2.2.2.1 k (by omega))
   have e4:=(hb.cell (Aa (GG.out.2.2.2.2 k (by omega)))).trans (GG.out.2.2.2.2 k (by omega))
   have T0:=hid ((E.out.1 k (by omega)).below hb.drew)
   have T1:=hid ((E.out.2.1 k (by omega)).below hb.drew)
   clear CC GG E HX ha ha2;go_wp2_with fail;go_region_with (go_at_call 7;refine(H (Ay xs k) (Ay ys k) _ _ T0.out T1.out).mono ?_;rintro e w1 ⟨rfl,hb1⟩)
   all_goals
    go_wp2;go_roundw
    case rel=>exact⟨k+1,by omega,by go_num,S.out.step (Below.and (Below.refl _ wr).drew hb1),hb.drew.trans (hb1.mono hb.size)⟩
    case measure=>simp[intOf];omega
  ·clear CC GG E HX ha ha2;go_wp2;go_ret;exact⟨rfl,hb⟩

theorem Jp:∀n,Ml n
 |0=>fun _ _ _ _ h=>h.elim
 |n+1=>R5 (Jp n)
end
section
open Go.RowKit

theorem Tx (a:Option Addr) (n cap:Nat) (hn:n<=maxLen) (w:World) :
  Calls Tryz.prog 4 #[.slice a n cap] w fun e w' =>e= .returned (.bool (decide (n>1048576)))/\w' =w:=by
 unfold maxLen at hn;by_cases h:n>1048576
 ·have hd:decide ((n:Int)>1048576)=true:=decide_eq_true (by omega)
  go_enter Tryz.func4,Tryz.ntmps4
  go_wp2;go_ret;exact⟨AS (by simp[h];try omega),rfl⟩
 ·go_enter Tryz.func4,Tryz.ntmps4
  go_wp2;go_ret;exact⟨AS (by simp[h];try omega),rfl⟩
end
section
open Go.RowKit

theorem IR (va:Value) (l:PL) (o k v:Int) (w:World) (h:Row w va l.length (Au l)) (hn:l.length<=2097000) :
  Calls Tryz.prog 17 #[va, .agg #[.int .i64 o, .int .i64 k, .int .i64 v]] w fun e w' =>∃v',e= .returned v' ∧w'.ownsRow w.heap.size 63 2 v' (doL l (o,k,v)).length (Au (doL l (o,k,v)))/\Below w.heap.size w w' :=by
 have RW:Hid (Row w va l.length (Au l)):=h
 clear h;go_enter Tryz.func17,Tryz.ntmps17
 go_wp2_with fail;have b0:Below w.heap.size w ((w.alloc (.cells #[.int .i64 o, .int .i64 k, .int .i64 v] 31)).alloc (.cells #[.int .i64 o, .int .i64 k, .int .i64 v] 31)):=((Below.refl _ _).alloc (Nat.le_refl _) _).alloc (by simp) _
 have RM:Row ((w.alloc (.cells #[.int .i64 o, .int .i64 k, .int .i64 v] 31)).alloc (.cells #[.int .i64 o, .int .i64 k, .int .i64 v] 31)) (.slice (some ⟨w.heap.size+1,0,none⟩) 1 1) [(o,k,v)].length (Al [(o,k,v)]):=by
  refine⟨some ⟨w.heap.size+1,0,none⟩,w.heap.size+1,0,1,rfl,Nat.le_refl _,by decide,fun _=>rfl,fun j u hj=> ?_,fun h=>by cases h⟩
  have hB:((w.alloc (.cells #[.int .i64 o, .int .i64 k, .int .i64 v] 31)).alloc (.cells #[.int .i64 o, .int .i64 k, .int .i64 v] 31)).heap[w.heap.size+1]? =some (.cells #[.int .i64 o, .int .i64 k, .int .i64 v] 31 (0,0)):=by
   rw[show w.heap.size+1=(w.alloc (.cells #[.int .i64 o, .int .i64 k, .int .i64 v] 31)).heap.size by simp];exact heap_alloc_new _ _
  rw[Nat.zero_add,Af hB]
  simpa[Al] using hj
 refine(Gu va _ l [(o,k,v)] _ (RW.out.below b0) RM (by simp;omega)).mono ?_
 rintro e w1 ⟨v1,rfl,o1,b1⟩
 have FIN:Hid _:=And.intro (AR o1 b0.size) (Below.and b0 b1)
 clear o1 b1 b0 RM;go_wp2;go_ret;exact⟨_,rfl,FIN.out.1,FIN.out.2⟩
end
section
open Go.RowKit

theorem W7 (args:Array Value) (w:World):(callFunc 25 args).run Tryz.prog w= .ok (.enter 25 args) w:=by go_simp

theorem Pz (d:Bool) (n:Nat) (hn:7<=n) (x:TV) (T:Tr) (F:Nat->Prop) (o k v:Int) (w:World) (h:Src d n w F x T) (hs:Az n T<=1048576) (hd:d=false->Az n T<=100000) :
  Calls Tryz.prog 6 #[x.val, .agg #[.int .i64 o, .int .i64 k, .int .i64 v]] w fun e w' =>∃y:TV,e= .returned y.val/\AD n w' (fun g=>w.heap.size<=g) y (Dq T (o,k,v))/\Below w.heap.size w w' :=by
 have HO:Hid (∀u,Below w.heap.size w u->Calls Tryz.prog 9 #[.agg x.cells.toArray] u fun e w' =>e= .returned (.bool (okT T))/\Below u.heap.size u w'):=fun u hu=>BP n x T u (h.2.treeAt.below hu)
 have HC:Hid (∀u,Below w.heap.size w u->Calls Tryz.prog 22 #[.agg x.cells.toArray] u fun e w' =>∃y:TV,e= .returned y.val/\AD n w' (fun g=>u.heap.size<=g) y T/\Below u.heap.size u w'):=fun u hu=>EX d n x T F u (h.below hu) hs hd
 have GV:Hid (okT T=true/\AK o k v=true/\¬o=4->∀u vm,Below w.heap.size w u->Row u vm 1 (Al [(o,k,v)])->Calls Tryz.prog 25 #[.agg x.cells.toArray,vm] u fun e w' =>∃v1 v2,e= .returned (.agg #[v1,v2])/\Ad (Ag T) w' (fun b=>F b∨u.heap.size<=b) v1 (Ae (Ag T) T [(o,k,v)]).1/\Aj w' (fun b=>F b∨u.heap.size<=b) v2 (Ae (Ag T) T [(o,k,v)]).2.length (Ab (Ae (Ag T) T [(o,k,v)]).2)/\Below u.heap.size u w'):=by
  rintro⟨hok,hmo,h4⟩
  have h7:=Dt hok
  exact fun u vm hu hr=>Ku (Ag T) F x T vm [(o,k,v)] 0 1000 u (Aq.down h7.1 (h.below hu).2) hr (H0 hok) (fun m hm=>by
   rw[List.mem_singleton] at hm
   subst hm;have:=CG hmo
   exact⟨⟨hmo,h4⟩,this.2.1.1,by have:=this.2.1.2;simp only;omega⟩) (by simp) (by have:=h7.2.2;simp only[List.length_cons,List.length_nil];omega)
 have RT:Hid (okT T=true/\AK o k v=true/\¬o=4->∀(u:World) (F' :Nat->Prop) (v1 v2:Value),Ad (Ag T) u F' v1 (Ae (Ag T) T [(o,k,v)]).1->Aj u F' v2 (Ae (Ag T) T [(o,k,v)]).2.length (Ab (Ae (Ag T) T [(o,k,v)]).2)->Calls Tryz.prog 24 #[.agg #[v1,v2]] u fun e w' =>∃x:TV,e= .returned x.val/\Aq ((Ag T)+(Ae (Ag T) T [(o,k,v)]).1.length) w' (fun b=>F' b∨u.heap.size<=b) x (A0 (Ae (Ag T) T [(o,k,v)]))/\Below u.heap.size u w'):=by
  rintro⟨hok,hmo,h4⟩
  have h7:=Dt hok
  have hmo' :=Bh (Ag T) T [(o,k,v)] h7.1 (by simp)
  have hl2:=hmo'.2
  simp only[List.length_cons,List.length_nil] at hl2
  exact fun u F' v1 v2 h1 h2=>JE (Ag T) F' v1 v2 (Ae (Ag T) T [(o,k,v)]) u h1 h2 hmo'.1 (by have hln:=AY hmo'.1.2;omega)
 have CE:Hid (okT T=true/\AK o k v=true/\¬o=4->∀(u:World) (x1:TV) (F1:Nat->Prop),Below w.heap.size w u->Aq ((Ag T)+(Ae (Ag T) T [(o,k,v)]).1.length) u F1 x1 (A0 (Ae (Ag T) T [(o,k,v)]))->Calls Tryz.prog 23 #[x1.val, .agg x.cells.toArray] u fun e w' =>∃y:TV,e= .returned y.val/\AD n w' (fun g=>u.heap.size<=g) y (Dq T (o,k,v))/\Below u.heap.size u w'):=fun H u x1 F1 hu h1=>by
  have:=Ib d _ n hn x1 x (A0 (Ae (Ag T) T [(o,k,v)])) T F1 F u h1 (h.below hu) hs hd
  rw[Dq,if_pos H]
  exact this
 have I0:=hid (In4.start w x.cells_len #[.int .i64 o, .int .i64 k, .int .i64 v])
 show Calls Tryz.prog 6 #[.agg x.cells.toArray, .agg #[.int .i64 o, .int .i64 k, .int .i64 v]] w _
 clear h;generalize x.cells=cs at *
 go_enter Tryz.func6,Tryz.ntmps6
 go_upto_region 1 with fail
 refine Cj (In4 w cs #[.int .i64 o, .int .i64 k, .int .i64 v]) I0.out ?_
 rintro V IV
 clear I0;have I:=hid IV
 clear IV;go_cut [17] (fun s wx=>∃b:Bool,s= .bool b/\Hid (b= !(okT T&&(AK o k v&& !decide (o=4))))/\Hid (In4 w cs #[.int .i64 o, .int .i64 k, .int .i64 v] wx))
 case first=>
  go_wp2_with (refine ldT rfl rfl _ rfl w.heap.size rfl cs I.out.t ?_)
  refine Calls.mono (HO.out _ I.out.b) ?_
  rintro e w1 ⟨rfl,b1⟩
  have I1:=hid (I.out.step b1)
  clear b1 I
  cases hok:okT T
  ·go_wp2_with fail;go_meet
   case rel=>exact⟨_,rfl,by show _=_;simp[hok],I1.out⟩
  ·obtain⟨j0,j1,j2⟩:=I1.out.m.three
   go_wp2_with fail;refine Calls.mono (Df o k v w1) ?_
   rintro e w2 ⟨rfl,b2⟩
   have I2:=hid (I1.out.step b2)
   clear b2 I1 j0 j1 j2;obtain⟨j0,j1,j2⟩:=I2.out.m.three
   cases hmo:AK o k v
   ·go_wp2_with fail;go_meet
    case rel=>exact⟨_,rfl,by show _=_;simp[hok,hmo],I2.out⟩
   ·by_cases ho4:o=4
    ·have h4:(o==4)=true:=by simp[ho4]
     have H4:=hid ho4
     clear ho4;go_wp2_with fail;go_meet
     case rel=>exact⟨_,rfl,by show _=_;simp[hok,H4.out],I2.out⟩
    ·have h4:(o==4)=false:=by simp[ho4]
     have H4:=hid ho4
     clear ho4;go_wp2_with fail;go_meet
     case rel=>exact⟨_,rfl,by show _=_;simp[hok,hmo,H4.out],I2.out⟩
 case rest=>
  obtain⟨b,rfl,HB,I⟩:=hcut
  cases b
  ·have hb:=HB.out
   simp only[Bool.false_eq,Bool.not_eq_false',Bool.and_eq_true,Bool.not_eq_true',decide_eq_false_iff_not] at hb
   replace GV:=hid (GV.out hb)
   replace RT:=hid (RT.out hb)
   replace CE:=hid (CE.out hb)
   clear HB hb HO HC;generalize Ag T+(Ae (Ag T) T [(o,k,v)]).1.length=N1 at *
   generalize A0 (Ae (Ag T) T [(o,k,v)])=T1 at *
   generalize Ae (Ag T) T [(o,k,v)]=MM at *
   generalize Ag T=D at *
   go_wp2_with fail;have KP:=hid (fun u (hu:Ltr wc.drew u)=>I.out.step (Below.and (Below.refl _ wc).drew hu))
   refine AF (fun u=>Bx u w.heap.size cs/\He u (w.heap.size+1) #[.int .i64 o, .int .i64 k, .int .i64 v]) [_,_,_,_,_,_,_] _ rfl (by kernel_rfl) (by kernel_rfl) ?_
   have hS:=hid (fun u hu=>And.intro (KP.out u hu).t (KP.out u hu).m)
   have hl:=I.out.t.2
   clear I;generalize wc.drew=wd at *
   refine tk 0 (oi:=⟨_,_,_,_,_,_⟩) (v:= .agg cs.toArray) rfl (by kernel_rfl) (fun _ _ _ h=>h) (yieldsIf_load_mid rfl _ _ rfl w.heap.size 0 rfl cs _ (fun u h=>h.1.rg) Tryz.underlying29 rfl (BG hl)) (hS.out _ (Ltr.refl _)) ?_
   refine tk 1 (oi:=⟨_,_,_,_,_,_⟩) (v:= .agg #[.int .i64 o, .int .i64 k, .int .i64 v]) rfl (by kernel_rfl) (fun _ _ _ h=>h) (Or.inl ⟨by rfl,fun u hu=> ?_⟩) (hS.out _ (Ltr.refl _)) ?_
   ·obtain⟨j0,j1,j2⟩:=hu.2.three
    go_simp
   refine tk 5 (oi:=⟨_,_,_,_,_,_⟩) (v:= .agg cs.toArray) rfl (by kernel_rfl) (fun _ _ _ h=>h) (yieldsIf_load_mid rfl _ _ rfl w.heap.size 0 rfl cs _ (fun u h=>h.1.rg) Tryz.underlying29 rfl (BG hl)) (hS.out _ (Ltr.refl _)) ?_
   clear hl;simp only[Act.put,sA,sB,sC]
   refine JA [(2,none),(3,none),(4,none),(6,none)] rfl (by kernel_rfl) hS.out (fun f g hf=>by simp at hf) ?_
   clear hS;refine CW.op (o:=⟨_,_,_,_,_,_⟩) rfl (fun u1 l1 K hK=> ?_)
   refine W9 (v:= .slice (some ⟨u1.heap.size,0,none⟩) 1 1) (u' :=u1.alloc (.cells #[.int .i64 o, .int .i64 k, .int .i64 v] 31)) (by go_simp<;>rfl) (hK.out _ _ (al1 _ _) ?_)
   clear hK K;simp only[Act.put,sA,sB,sC]
   refine CW.op (o:=⟨_,_,_,_,_,_⟩) rfl (fun u2 l2 K hK=> ?_)
   have L2:=l1.trans (Ltr.trans (al1 u1 (.cells #[.int .i64 o, .int .i64 k, .int .i64 v] 31)) l2)
   refine Be 25 [.tmp 20, .tmp 22] #[29,27] rfl W7 [.agg cs.toArray, .slice (some ⟨u1.heap.size,0,none⟩) 1 1] rfl (GV.out u2 _ (KP.out _ L2).b ((Row.laid u1 (Al [(o,k,v)]) 31 _ rfl).below l2)) ?_
   rintro e x2 ⟨v1,v2,rfl,t1,t2,b2⟩
   refine⟨_,rfl,hK.out _ _ b2 ?_⟩
   clear hK K;simp only[Act.put,sA,sB,sC]
   refine CW.op (o:=⟨_,_,_,_,_,_⟩) rfl (fun u3 l3 K hK=> ?_)
   have L3:=L2.trans (Ltr.trans b2 l3)
   refine Be 24 [.tmp 23] #[52] rfl Jz [.agg #[v1,v2]] rfl (RT.out u3 _ _ _ (t1.below l3) (t2.below l3)) ?_
   rintro e x3 ⟨r,rfl,t3,b3⟩
   refine⟨_,rfl,hK.out _ _ b3 ?_⟩
   clear hK K;simp only[Act.put,sA,sB,sC]
   refine CW.op (o:=⟨_,_,_,_,_,_⟩) rfl (fun u4 l4 K hK=> ?_)
   have I4:=KP.out _ (L3.trans (Ltr.trans b3 l4))
   refine Be 23 [.tmp 24, .tmp 25] #[29,29] rfl GX [r.val, .agg cs.toArray] rfl (CE.out u4 _ _ I4.b (t3.below l4)) ?_
   rintro e x4 ⟨y,rfl,TY,b4⟩
   refine⟨_,rfl,hK.out _ _ b4 ?_⟩
   clear hK K;simp only[Act.put,sA,sB,sC]
   refine CW.last (fun u5 l5 K hK=> ?_)
   obtain⟨f1,f2,f3⟩:=C9 I4.r (by omega) I4.b (Below.and b4 l5) (TY.below l5)
   refine wp_store_mid 29 _ _ rfl (w.heap.size+2) 0 y.cells.toArray rfl rfl ((I4.r.step (Below.and b4 l5)).there rfl) (BG y.cells_len) TY.treeF.treeAt.ones (hK.out _ _ ?_)
   have FF:=hid (And.intro f1 (And.intro f2 f3))
   clear hK K f1 f2 f3 TY I4 L3 L2 t1 t2 t3 b2 b3 b4 l1 l2 l3 l4 l5 GV RT CE KP;go_wp2_with fail;exact⟨rfl,_,Lm Tryz.results6 _ _ _ y rfl FF.out.1,⟨y,rfl,FF.out.2.1,FF.out.2.2⟩⟩
  ·have ED:Dq T (o,k,v)=T:=by
    rw[Dq,if_neg]
    intro h;have:=HB.out
    simp[h.1,h.2.1,h.2.2] at this
   go_wp2_with (refine ldT rfl rfl _ rfl w.heap.size rfl cs I.out.t ?_)
   refine Calls.mono (HC.out _ I.out.b) ?_
   rintro e w1 ⟨y,rfl,TY,b1⟩
   obtain⟨f1,f2,f3⟩:=C9 I.out.r (by omega) I.out.b b1 TY
   have R1:=hid (And.intro (I.out.r.step b1) TY.treeF.treeAt.ones)
   have FF:=hid (And.intro f1 (And.intro f2 f3))
   clear f1 f2 f3 TY;go_wp2_with (refine stT rfl rfl _ _ rfl (w.heap.size+2) y rfl rfl R1.out.1 R1.out.2 ?_)
   generalize w1.setCells (w.heap.size+2) 0 y.cells=WF at *
   exact⟨rfl,_,Lm Tryz.results6 _ WF _ y rfl FF.out.1,⟨y,rfl,by rw[ED];exact FF.out.2.1,FF.out.2.2⟩⟩
end
end Go.Proofs.YtnakaabnjelffaaGreat
