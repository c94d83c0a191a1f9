/-
  The model's drawing of numbers off the bytes of a code: what a cursor is, and that every draw returns.
  Contracts of the small functions of chapter 1 on numbers and messages.
  Contracts of the functions on lists of pairs that the laws and chapter 1 use.
  MapGet as a plain function.
  Maps as ascending lists of pairs: putting, deleting, getting; plain mathematics.
  The model's way of putting into a map, pair by pair, comes to the plain function.
-/
import Derived.Test.YtadmomgdacfgpaaGreatOfInjd1
import Derived.Deep.QuietTactic
import Derived.BigQuiet
import Derived.Deep.RegionWith
import Derived.Test.YtadmomgdacfgpaaGreatRows
namespace Go.Proofs.YtadmomgdacfgpaaGreat
set_option maxRecDepth 100000
set_option maxHeartbeats 8000000
section
open Go.RowKit

def Cur (w:World) (C:Nat):Prop:=
 ∃(a:Option Addr) (n cap b off:Nat) (bs:List Int) (i:Nat) (h:Int),w.heap[C]? =some (.cells #[.slice a n cap, .int .i64 i, .int .i64 h] 83 (0,0))/\n<=1048576/\i<=n/\(0<n->a=some ⟨b,off,none⟩/\b<C)∧
  (∀j,j<n->w.cell? ⟨b,off+j,none⟩=some (.int .u8 (bs.getD j 0)))/\(∀j,0<=bs.getD j 0/\bs.getD j 0<=255)

theorem OZ {F:Nat->Prop} {w w' :World} {b o:Nat} {v:Value} (h:w.cell? ⟨b,o,none⟩=some v) (hc:Chg F w w') (hF:¬F b):w'.cell? ⟨b,o,none⟩=some v:=by
 rw[←h];exact World.cell?_of_block (hc.block b (Aa h) hF)
theorem Cur.chg {F:Nat->Prop} {w w' :World} {C:Nat} (h:Cur w C) (hc:Chg F w w') (hF:∀g,F g->C<g):Cur w' C:=by
 obtain⟨a,n,cap,b,off,bs,i,h,h1,h2,h3,h4,h5,h6⟩:=h
 refine⟨a,n,cap,b,off,bs,i,h,C9 h1 hc (fun e=>Nat.lt_irrefl _ (hF _ e)),h2,h3,h4,fun j hj=>OZ (h5 j hj) hc (fun e=> ?_),h6⟩
 have:=hF _ e
 have:=(h4 (by omega)).2
 omega
theorem Cur.below {w w' :World} {C:Nat} (h:Cur w C) (hb:Below w.heap.size w w'):Cur w' C:=h.chg (Chg.of_below (F:=fun _=>False) hb) (fun _ e=>e.elim)

theorem Wg (n:Int):bits .and .i64 n 255=n%256:=by
 have h255:(BitVec.ofInt 64 255).toNat=2^8-1:=by decide
 have key:(BitVec.ofInt 64 n &&& BitVec.ofInt 64 255).toNat=(n%((2^64:Nat):Int)).toNat%2^8:=by
  rw[BitVec.toNat_and,BitVec.toNat_ofInt,h255,Nat.and_two_pow_sub_one_eq_mod]
 show IntKind.i64.wrap ((BitVec.ofInt 64 n &&& BitVec.ofInt 64 255).toNat:Nat)=n%256
 rw[key,IntKind.wrap_i64]
 omega
theorem Jg (n:Int):0<=bits .and .i64 n 255/\bits .and .i64 n 255<=255:=by rw[Wg];omega

theorem Cur.store2 {w:World} {C:Nat} (h:Cur w C) (x:Int) (q:Nat):Cur ((w.setCell ⟨C,2,none⟩ (.int .i64 x)).drewN q) C/\Chg (fun g=>g=C) w ((w.setCell ⟨C,2,none⟩ (.int .i64 x)).drewN q):=by
 obtain⟨a,n,cap,b,off,bs,i,h,h1,h2,h3,h4,h5,h6⟩:=h
 have hc:Chg (fun g=>g=C) w (w.setCell ⟨C,2,none⟩ (.int .i64 x)):=Chg.setAt (F:=fun g=>g=C) (Chg.refl _ _) _ _ rfl _
 refine⟨⟨a,n,cap,b,off,bs,i,x, ?_,h2,h3,h4,fun j hj=> ?_,h6⟩,hc.drewN q⟩
 ·exact heap_setCell_same w C 2 _ 83 (.int .i64 x) h1
 ·have:=h5 j hj
  rw[←this]
  exact World.cell?_of_block (hc.block b (Aa this) (Nat.ne_of_lt (h4 (by omega)).2))
theorem Cur.store1 {w:World} {C:Nat} (h:Cur w C) {i:Nat} (hi:w.cell? ⟨C,1,none⟩=some (.int .i64 i)) (hlt:∀a n cap,w.cell? ⟨C,0,none⟩=some (.slice a n cap)->i<n) :
  Cur (w.setCell ⟨C,1,none⟩ (.int .i64 (i+1))) C/\Chg (fun g=>g=C) w (w.setCell ⟨C,1,none⟩ (.int .i64 (i+1))):=by
 obtain⟨a,n,cap,b,off,bs,i',h,h1,h2,h3,h4,h5,h6⟩:=h
 have hii:i' =i:=by
  rw[Ae h1] at hi
  simp at hi
  omega
 subst hii;have hn:=hlt a n cap (by rw[Ae h1];rfl)
 have hc:Chg (fun g=>g=C) w (w.setCell ⟨C,1,none⟩ (.int .i64 (i' +1))):=Chg.setAt (F:=fun g=>g=C) (Chg.refl _ _) _ _ rfl _
 refine⟨⟨a,n,cap,b,off,bs,i' +1,h, ?_,h2,by omega,h4,fun j hj=> ?_,h6⟩,hc⟩
 ·exact heap_setCell_same w C 1 _ 83 (.int .i64 (i' +1)) h1
 ·have:=h5 j hj
  rw[←this]
  exact World.cell?_of_block (hc.block b (Aa this) (Nat.ne_of_lt (h4 (by omega)).2))

theorem FD (C:Nat) (w:World) (hc:Cur w C) :
  Calls Tryz.prog 90 #[.pointer (some ⟨C,0,none⟩)] w fun e w' =>∃x:Int,e= .returned (.int .i64 x)/\0<=x/\x<=255/\Cur w' C/\Chg (fun g=>g=C) w w' :=by
 have CU:Hid (Cur w C):=hc
 obtain⟨a,n,cap,b,off,bs,i,h,h1,h2,h3,h4,h5,h6⟩:=hc
 have c0:w.cell? ⟨C,0,none⟩=some (.slice a n cap):=by rw[Ae h1];rfl
 have c1:w.cell? ⟨C,1,none⟩=some (.int .i64 i):=by rw[Ae h1];rfl
 have c2:w.cell? ⟨C,2,none⟩=some (.int .i64 h):=by rw[Ae h1];rfl
 have f1:w.frozen? ⟨C,1,none⟩=false:=AC h1
 have f2:w.frozen? ⟨C,2,none⟩=false:=AC h1
 have FIN1:Hid (∀H Q,Cur ((w.setCell ⟨C,2,none⟩ (.int .i64 H)).drewN Q) C/\Chg (fun g=>g=C) w ((w.setCell ⟨C,2,none⟩ (.int .i64 H)).drewN Q)):=fun H Q=>CU.out.store2 H Q
 have FIN2:Hid (i<n->∀H Q,Cur (((w.setCell ⟨C,2,none⟩ (.int .i64 H)).drewN Q).setCell ⟨C,1,none⟩ (.int .i64 (i+1))) C/\Chg (fun g=>g=C) w (((w.setCell ⟨C,2,none⟩ (.int .i64 H)).drewN Q).setCell ⟨C,1,none⟩ (.int .i64 (i+1)))):=by
  intro hin H Q;obtain⟨r1,r2⟩:=CU.out.store2 H Q
  have hh:((w.setCell ⟨C,2,none⟩ (.int .i64 H)).drewN Q).heap[C]? =some (.cells #[.slice a n cap, .int .i64 i, .int .i64 H] 83 (0,0)):=heap_setCell_same w C 2 _ 83 (.int .i64 H) h1
  obtain⟨q1,q2⟩:=r1.store1 (i:=i) (by rw[Ae hh];rfl) (fun a' n' cap' he=>by rw[Ae hh] at he;simp at he;omega)
  exact⟨q1,r2.trans q2 (fun _ _ e=>e)⟩
 clear h1;by_cases hin:i<n
 ·obtain⟨ha,hbC⟩:=h4 (by omega)
  subst ha;have d0:=h5 i hin
  obtain⟨hb0,hb1⟩:=h6 i
  generalize bs.getD i 0=y at *
  have hin' :(i:Int)<(n:Int):=by omega
  have hdec:decide ((i:Int)<(n:Int))=true:=by simpa using hin
  clear h4 h5 h6;go_enter Tryz.func90,Tryz.ntmps90
  go_wp2;go_quiet (fail)
  generalize hH:wrap64 (wrap64 (h*6364136223846793005)+1442695040888963407)=H
  clear hH;have hx:=Jg (bits BinOp.xor IntKind.i64 (H/8589934592) (H/35184372088832))
  generalize bits BinOp.and IntKind.i64 (bits BinOp.xor IntKind.i64 (H/8589934592) (H/35184372088832)) 255=x0 at *
  obtain⟨hx0,hx1⟩:=hx
  have e0:(w.setCell ⟨C,2,none⟩ (.int .i64 H)).cell? ⟨b,off+i,none⟩=some (.int .u8 y):=by
   rw[←d0];exact World.cell?_of_block (heap_setCell_other _ _ _ _ (Nat.ne_of_lt hbC))
  go_wp2;go_quiet (fail)
  go_wp2;go_quiet (fail)
  generalize hX:bits BinOp.and IntKind.i64 (x0+y) 255=x1
  have hx1' :=Jg (x0+y)
  rw[hX] at hx1'
  clear hX;go_wp2;go_ret;exact⟨x1,rfl,hx1'.1,hx1'.2,(FIN2.out hin _ _).1,(FIN2.out hin _ _).2⟩
 ·have hin' :¬(i:Int)<(n:Int):=by omega
  have hdec:decide ((i:Int)<(n:Int))=false:=by simpa using hin
  clear h4 h5 h6;go_enter Tryz.func90,Tryz.ntmps90
  go_wp2;go_quiet (fail)
  generalize hH:wrap64 (wrap64 (h*6364136223846793005)+1442695040888963407)=H
  clear hH;have hx:=Jg (bits BinOp.xor IntKind.i64 (H/8589934592) (H/35184372088832))
  generalize bits BinOp.and IntKind.i64 (bits BinOp.xor IntKind.i64 (H/8589934592) (H/35184372088832)) 255=x0 at *
  obtain⟨hx0,hx1⟩:=hx
  go_wp2;go_quiet (fail)
  go_wp2;go_ret;exact⟨x0,rfl,hx0,hx1,(FIN1.out _ _).1.below (below_drewN (Below.refl _ _) _),(FIN1.out _ _).2.drewN _⟩

theorem F5 (C:Nat) (n:Int) (w:World) (hc:Cur w C) (hn:n<=1000000000) :
  Calls Tryz.prog 51 #[.pointer (some ⟨C,0,none⟩), .int .i64 n] w fun e w' =>∃x:Int,e= .returned (.int .i64 x)/\0<=x/\(0<n->x<n)/\(n<=0->x=0)/\Cur w' C/\Chg (fun g=>g=C) w w' :=by
 by_cases h0:n<=0
 ·go_enter Tryz.func51,Tryz.ntmps51
  go_wp2;go_ret;exact⟨0,rfl,by omega,by omega,fun _=>rfl,hc,Chg.refl _ _⟩
 ·by_cases h1:n<=256
  ·have CU:Hid (Cur w C):=hc
   clear hc;go_enter Tryz.func51,Tryz.ntmps51
   go_wp2_with fail;refine(FD C _ CU.out).mono ?_
   rintro e w1 ⟨x,rfl,hx0,hx1,c1,g1⟩
   have FIN:Hid _:=And.intro c1 g1
   clear c1 g1;have hnn:0<n:=by omega
   go_wp2;go_ret;exact⟨x%n,rfl,Int.emod_nonneg _ (by omega),fun _=>Int.emod_lt_of_pos _ hnn,by omega,FIN.out.1,FIN.out.2⟩
  ·have CU:Hid (Cur w C):=hc
   clear hc;go_enter Tryz.func51,Tryz.ntmps51
   go_wp2_with fail;refine(FD C _ CU.out).mono ?_
   rintro e w1 ⟨x,rfl,hx0,hx1,c1,g1⟩
   have F1:Hid _:=And.intro c1 g1
   clear c1 g1;go_wp2_with fail;refine(FD C _ F1.out.1).mono ?_
   rintro e w2 ⟨y,rfl,hy0,hy1,c2,g2⟩
   have F2:Hid _:=And.intro c2 (F1.out.2.trans g2 (fun _ _ e=>e))
   clear c2 g2;go_wp2_with fail;refine(FD C _ F2.out.1).mono ?_
   rintro e w3 ⟨z,rfl,hz0,hz1,c3,g3⟩
   have F3:Hid _:=And.intro c3 (F2.out.2.trans g3 (fun _ _ e=>e))
   clear c3 g3;go_wp2_with fail;refine(FD C _ F3.out.1).mono ?_
   rintro e w4 ⟨u,rfl,hu0,hu1,c4,g4⟩
   have F4:Hid _:=And.intro c4 (F3.out.2.trans g4 (fun _ _ e=>e))
   clear c4 g4;have hnn:0<n:=by omega
   go_wp2;go_ret;exact⟨(x*16777216+y*65536+z*256+u)%n,rfl,Int.emod_nonneg _ (by omega),fun _=>Int.emod_lt_of_pos _ hnn,by omega,F4.out.1,F4.out.2⟩

theorem QY (C:Nat) (n:Int) (w:World) (hc:Cur w C) (hn:n<=1000000000) :
  Calls Tryz.prog 40 #[.pointer (some ⟨C,0,none⟩), .int .i64 n] w fun e w' =>∃x:Bool,e= .returned (.bool x)/\Cur w' C/\Chg (fun g=>g=C) w w' :=by
 go_enter Tryz.func40,Tryz.ntmps40
 go_wp2_with fail;refine(F5 C n _ hc hn).mono ?_
 rintro e w1 ⟨x,rfl,_,_,_,c1,g1⟩
 have F1:Hid _:=And.intro c1 g1
 clear c1 g1;go_wp2;go_ret;exact⟨x==0,rfl,F1.out.1,F1.out.2⟩

theorem Gh (C:Nat) (b:Nat) (zs:List Int) (hz:0<zs.length) (hz2:zs.length<=1000) (w:World) (hc:Cur w C) (hb:w.heap[b]? =some (.cells (zs.map (Value.int .i64)).toArray 3 (0,0))) (hbC:b≠C) :
  Calls Tryz.prog 49 #[.pointer (some ⟨C,0,none⟩), .slice (some ⟨b,0,none⟩) zs.length zs.length] w fun e w' =>∃x:Int,e= .returned (.int .i64 x)/\x∈zs/\Cur w' C/\Chg (fun g=>g=C) w w' :=by
 have HB:Hid _:=hb
 clear hb;go_enter Tryz.func49,Tryz.ntmps49
 go_wp2_with fail;refine(F5 C zs.length _ hc (by omega)).mono ?_
 rintro e w1 ⟨x,rfl,hx0,hx1,_,c1,g1⟩
 have hxl:=hx1 (by omega)
 obtain⟨i,rfl⟩:=Int.eq_ofNat_of_zero_le hx0
 have hi:i<zs.length:=by omega
 have d0:w1.cell? ⟨b,i,none⟩=some (.int .i64 (zs.getD i 0)):=by
  refine OZ ?_ g1 hbC
  rw[Ae HB.out]
  simp[List.getD,hi]
 have hm:zs.getD i 0∈zs:=by
  rw[List.getD,List.getElem?_eq_getElem hi];exact List.getElem_mem hi
 generalize zs.getD i 0=y at *
 have F1:Hid _:=And.intro hm (And.intro c1 g1)
 clear c1 g1 hm hx1;go_wp2;go_ret;exact⟨y,rfl,F1.out.1,F1.out.2.1,F1.out.2.2⟩
end
section
open Go.RowKit

theorem Cd (x lo hi:Int) (w:World) :
  Calls Tryz.prog 77 #[.int .i64 x, .int .i64 lo, .int .i64 hi] w fun e w' =>e= .returned (.bool (inB x lo hi))/\w' =w:=by
 by_cases h1:lo<=x
 ·by_cases h2:x<=hi
  ·have E:Hid (inB x lo hi=true):=Fc h1 h2
   go_enter Tryz.func77,Tryz.ntmps77
   go_wp2;go_ret;exact⟨AM E.out.symm,rfl⟩
  ·have E:Hid (inB x lo hi=false):=Ft h2
   go_enter Tryz.func77,Tryz.ntmps77
   go_wp2;go_ret;exact⟨AM E.out.symm,rfl⟩
 ·have E:Hid (inB x lo hi=false):=EO h1
  go_enter Tryz.func77,Tryz.ntmps77
  go_wp2;go_ret;exact⟨AM E.out.symm,rfl⟩

theorem Fe (x:Int) (w:World) :
  Calls Tryz.prog 78 #[.int .i64 x] w fun e w' =>e= .returned (.bool (inB x (-1000000000) 1000000000))/\w' =w:=by
 go_enter Tryz.func78,Tryz.ntmps78
 go_wp2_with (go_at_call 77;refine(Cd _ _ _ _).mono ?_;rintro e w' ⟨rfl,rfl⟩)
 go_ret;exact⟨rfl,rfl⟩

theorem DE (x:Int) (w:World) :
  Calls Tryz.prog 58 #[.int .i64 x] w fun e w' =>e= .returned (.bool (inB x 0 999))/\w' =w:=by
 by_cases h1:0<=x
 ·by_cases h2:x<=999
  ·have E:Hid (inB x 0 999=true):=Fc h1 h2
   go_enter Tryz.func58,Tryz.ntmps58
   go_wp2;go_ret;exact⟨AM E.out.symm,rfl⟩
  ·have E:Hid (inB x 0 999=false):=Ft h2
   go_enter Tryz.func58,Tryz.ntmps58
   go_wp2;go_ret;exact⟨AM E.out.symm,rfl⟩
 ·have E:Hid (inB x 0 999=false):=EO h1
  go_enter Tryz.func58,Tryz.ntmps58
  go_wp2;go_ret;exact⟨AM E.out.symm,rfl⟩

theorem Dg (x:Int) (w:World) :
  Calls Tryz.prog 59 #[.int .i64 x] w fun e w' =>e= .returned (.bool (inB x (-1000000000) 1000000000))/\w' =w:=by
 by_cases h1: -1000000000<=x
 ·by_cases h2:x<=1000000000
  ·have E:Hid (inB x (-1000000000) 1000000000=true):=Fc h1 h2
   go_enter Tryz.func59,Tryz.ntmps59
   go_wp2;go_ret;exact⟨AM E.out.symm,rfl⟩
  ·have E:Hid (inB x (-1000000000) 1000000000=false):=Ft h2
   go_enter Tryz.func59,Tryz.ntmps59
   go_wp2;go_ret;exact⟨AM E.out.symm,rfl⟩
 ·have E:Hid (inB x (-1000000000) 1000000000=false):=EO h1
  go_enter Tryz.func59,Tryz.ntmps59
  go_wp2;go_ret;exact⟨AM E.out.symm,rfl⟩

theorem Ca (o k v:Int) (w:World) :
  Calls Tryz.prog 36 #[.agg #[.int .i64 o, .int .i64 k, .int .i64 v]] w fun e w' =>e= .returned (.bool (AJ o k v))/\Below w.heap.size w w' :=by
 go_enter Tryz.func36,Tryz.ntmps36
 go_wp2_with (first|(go_at_call 77;refine(Cd _ _ _ _).mono ?_;rintro e w' ⟨rfl,rfl⟩)|(go_at_call 78;refine(Fe _ _).mono ?_;rintro e w' ⟨rfl,rfl⟩))
 all_goals (go_ret;refine⟨AM ?_,(Below.refl _ _).alloc (Nat.le_refl _) _⟩;simp_all[AJ,Bool.or_assoc])

theorem OE {o k v:Int} (h:o=1∨o=3):AJ o k v=(inB k 0 999&&inB v (-1000000000) 1000000000):=by
 rcases h with rfl|rfl<;>simp[AJ,inB]
theorem Ps {o k v:Int} (h:o=2∨o=4):AJ o k v=(inB k 0 999&&(v==0)):=by
 have ho:inB o 1 4=true:=by rcases h with rfl|rfl<;>rfl
 have h1:(o==1)=false:=by rcases h with rfl|rfl<;>rfl
 have h3:(o==3)=false:=by rcases h with rfl|rfl<;>rfl
 by_cases hv:v=0
 ·subst hv;have:inB 0 (-1000000000) 1000000000=true:=by decide
  simp[AJ,ho,this]
 ·have:(v==0)=false:=by simpa using hv
  simp[AJ,h1,h3,this]
theorem U8 {o k v:Int} (h1:(o==1)=false) (h2:(o==2)=false) (h3:(o==3)=false) (h4:(o==4)=false):AJ o k v=false:=by
 have:inB o 1 4=false:=by
  simp only[beq_eq_false_iff_ne] at *
  simp only[inB,decide_eq_false_iff_not];omega
 simp[AJ,this]

theorem CQ (o k v:Int) (w:World) :
  Calls Tryz.prog 27 #[.agg #[.int .i64 o, .int .i64 k, .int .i64 v]] w fun e w' =>e= .returned (.bool (AJ o k v))/\Below w.heap.size w w' :=by
 rcases(show(o==1)=true∨((o==1)=false/\(o==3)=true)∨((o==1)=false/\(o==3)=false/\(o==2)=true)∨((o==1)=false/\(o==3)=false/\(o==2)=false/\(o==4)=true)∨((o==1)=false/\(o==3)=false/\(o==2)=false/\(o==4)=false) from by
  cases (o==1)<;>cases (o==2)<;>cases (o==3)<;>cases (o==4)<;>simp) with h|⟨h1,h⟩|⟨h1,h3,h⟩|⟨h1,h3,h2,h⟩|⟨h1,h3,h2,h⟩
 ·have E:Hid (AJ o k v=(inB k 0 999&&inB v (-1000000000) 1000000000)):=OE (Or.inl (by simpa using h))
  go_enter Tryz.func27,Tryz.ntmps27
  go_wp2_with (first|(go_at_call 58;refine(DE _ _).mono ?_;rintro e w' ⟨rfl,rfl⟩)|(go_at_call 59;refine(Dg _ _).mono ?_;rintro e w' ⟨rfl,rfl⟩))
  all_goals (go_ret;refine⟨AM ?_,(Below.refl _ _).alloc (Nat.le_refl _) _⟩;rw[E.out];simp[*])
 ·have E:Hid (AJ o k v=(inB k 0 999&&inB v (-1000000000) 1000000000)):=OE (Or.inr (by simpa using h))
  go_enter Tryz.func27,Tryz.ntmps27
  go_wp2_with (first|(go_at_call 58;refine(DE _ _).mono ?_;rintro e w' ⟨rfl,rfl⟩)|(go_at_call 59;refine(Dg _ _).mono ?_;rintro e w' ⟨rfl,rfl⟩))
  all_goals (go_ret;refine⟨AM ?_,(Below.refl _ _).alloc (Nat.le_refl _) _⟩;rw[E.out];simp[*])
 ·have E:Hid (AJ o k v=(inB k 0 999&&(v==0))):=Ps (Or.inl (by simpa using h))
  go_enter Tryz.func27,Tryz.ntmps27
  go_wp2_with (first|(go_at_call 58;refine(DE _ _).mono ?_;rintro e w' ⟨rfl,rfl⟩)|(go_at_call 59;refine(Dg _ _).mono ?_;rintro e w' ⟨rfl,rfl⟩))
  all_goals (go_ret;refine⟨AM ?_,(Below.refl _ _).alloc (Nat.le_refl _) _⟩;rw[E.out];simp[*])
 ·have E:Hid (AJ o k v=(inB k 0 999&&(v==0))):=Ps (Or.inr (by simpa using h))
  go_enter Tryz.func27,Tryz.ntmps27
  go_wp2_with (first|(go_at_call 58;refine(DE _ _).mono ?_;rintro e w' ⟨rfl,rfl⟩)|(go_at_call 59;refine(Dg _ _).mono ?_;rintro e w' ⟨rfl,rfl⟩))
  all_goals (go_ret;refine⟨AM ?_,(Below.refl _ _).alloc (Nat.le_refl _) _⟩;rw[E.out];simp[*])
 ·have E:Hid (AJ o k v=false):=U8 h1 h2 h3 h
  go_enter Tryz.func27,Tryz.ntmps27
  go_wp2;go_ret;exact⟨AM E.out.symm,(Below.refl _ _).alloc (Nat.le_refl _) _⟩
end
section
open Go.RowKit

theorem Tryz.info41:(Tryz.prog.info? 41).map (fun i=>(i.zero,i.size,i.bytes))=some (some (.agg #[.int .i64 0, .int .i64 0]),2,16):=by kernel_rfl

def WC (l:List (Int × Int)) (k:Nat):List Value:=Aq (l.take k)++List.replicate ((l.length-k)*2) (.int .i64 0)

theorem Mn (zs:Array Value) (z:Value) (h0:0<zs.size) (h:∀i,i<zs.size->zs[i]! =z) (n:Nat):(madeCells zs n).toList=List.replicate n z:=by
 apply List.ext_getElem?
 intro j;by_cases hj:j<n
 ·simp[madeCells,hj]
  exact h _ (Nat.mod_lt _ h0)
 ·simp[madeCells,hj]

theorem Gu (l:List (Int × Int)) (k:Nat) (hk:k<l.length):l.take (k+1)=l.take k++[(kOf l k,vOf l k)]:=by
 have e:(kOf l k,vOf l k)=l[k]:=by simp[kOf,vOf,List.getD,hk]
 rw[List.take_succ_eq_append_getElem hk,e]
end
section
def Aw:List (Int × Int)->Int->Int × Bool
 |[],_=>(0,false)
 |p::l,k=>if p.1=k then (p.2,true) else Aw l k

theorem UE {l:List (Int × Int)} {x:Int}:∀ {i:Nat},i<l.length->(∀j,j<i->kOf l j≠x)->kOf l i=x->Aw l x=(vOf l i,true):=by
 induction l with
 |nil=>intro i h;simp at h
 |cons p l ih=>
  intro i h hall hx
  cases i with
  |zero=>
   simp only[kOf,List.getD_cons_zero] at hx
   simp[Aw,hx,vOf]
  |succ i=>
   have h0:=hall 0 (by omega)
   simp only[kOf,List.getD_cons_zero] at h0
   rw[Aw,if_neg h0,ih (by simpa using h) (fun j hj=>by have:=hall (j+1) (by omega);simpa[kOf] using this) (by simpa[kOf] using hx)]
   simp[vOf]
theorem Sr {l:List (Int × Int)} {x:Int} (hall:∀j,j<l.length->kOf l j≠x):Aw l x=(0,false):=by
 induction l with
 |nil=>rfl
 |cons p l ih=>
  have h0:=hall 0 (by simp)
  simp only[kOf,List.getD_cons_zero] at h0
  rw[Aw,if_neg h0]
  exact ih (fun j hj=>by have:=hall (j+1) (by simpa using hj);simpa[kOf] using this)
end
section
abbrev PL:=List (Int × Int)
def Be (l:PL):List Int:=l.map (·.1)
def EH (l:PL):List Int:=l.map (·.2)
theorem CG (l:PL):(Be l).length=l.length:=by simp[Be]
theorem Ej (l:PL):(EH l).length=l.length:=by simp[EH]

def Asc (l:PL):Prop:=(Be l).Pairwise (· < ·)
theorem Asc.le {l:PL} (h:Asc l):(Be l).Pairwise (· <= ·):=h.imp (fun h=>Int.le_of_lt h)
theorem Asc.cons {p:Int × Int} {l:PL} (h:Asc (p::l)):(∀q∈l,p.1<q.1)/\Asc l:=by
 have:=List.pairwise_cons.1 (show(p.1::Be l).Pairwise (· < ·) from h)
 exact⟨fun q hq=>this.1 q.1 (List.mem_map_of_mem hq),this.2⟩
def BH (l:PL) (k v:Int):PL:=l.filter (fun p=>decide (p.1<k))++(k,v)::l.filter (fun p=>decide (k<p.1))
def C5 (l:PL) (k:Int):PL:=l.filter (fun p=>decide (p.1≠k))

theorem E6 {l:PL} {k:Int} (h:∀q∈l,k<q.1):l.filter (fun p=>decide (p.1<k))=[]/\l.filter (fun p=>decide (k<p.1))=l/\l.filter (fun p=>decide (p.1≠k))=l:=by
 refine⟨List.filter_eq_nil_iff.2 (fun q hq=> ?_),List.filter_eq_self.2 (fun q hq=> ?_),List.filter_eq_self.2 (fun q hq=> ?_)⟩
 ·have:=h q hq;simp;omega
 ·have:=h q hq;simp;omega
 ·have:=h q hq;simp;omega
theorem Hw {l:PL} {k:Int} (h:∀q∈l,k<q.1):(Be l).countP (fun x=>decide (x<k))=0:=by
 rw[List.countP_eq_zero]
 intro a ha;obtain⟨q,hq,rfl⟩:=List.mem_map.1 ha
 have:=h q hq;simp;omega
theorem OJ {l:PL} {k:Int} (h:∀q∈l,k<q.1):(Be l).contains k=false:=by
 rw[Bool.eq_false_iff]
 intro hc;have hm:k∈Be l:=by simpa using hc
 obtain⟨q,hq,e⟩:=List.mem_map.1 hm
 have:=h q hq;omega

theorem Db (p:Int × Int) (l:PL):Be (p::l)=p.1::Be l:=rfl
theorem Dq (p:Int × Int) (l:PL):EH (p::l)=p.2::EH l:=rfl

theorem Eg (p:Int × Int) (l:PL) (k:Int):(Be (p::l)).countP (fun x=>decide (x<k))=(Be l).countP (fun x=>decide (x<k))+if p.1<k then 1 else 0:=by
 rw[Db,List.countP_cons];simp
theorem contains_cons (p:Int × Int) (l:PL) (k:Int):(Be (p::l)).contains k=(decide (k=p.1)||(Be l).contains k):=by
 rw[Db,List.contains_cons]
 congr 1

theorem LE {l:PL} (h:Asc l) {k v:Int} (hf:(Be l).contains k=true):Be (BH l k v)=Be l/\EH (BH l k v)=(EH l).set ((Be l).countP (fun x=>decide (x<k))) v:=by
 induction l with
 |nil=>simp[Be] at hf
 |cons p l ih=>
  obtain⟨h1,h2⟩:=h.cons
  by_cases hlt:p.1<k
  ·have hf' :(Be l).contains k=true:=by rw[contains_cons] at hf;simpa[show ¬k=p.1 by omega] using hf
   have:=ih h2 hf'
   have e:BH (p::l) k v=p::BH l k v:=by simp[BH,hlt,show ¬k<p.1 by omega]
   rw[e,Eg,if_pos hlt,Db,Db,Dq,Dq,this.1,this.2]
   simp
  ·have hp:k=p.1:=by
    rw[contains_cons] at hf
    rcases Bool.or_eq_true _ _ ▸ hf with h' | h'
    ·simpa using h'
    ·have hm:k∈Be l:=by simpa using h'
     obtain⟨q,hq,e⟩:=List.mem_map.1 hm
     have:=h1 q hq;omega
   have hg:∀q∈l,k<q.1:=fun q hq=>by rw[hp];exact h1 q hq
   obtain⟨f1,f2,_⟩:=E6 hg
   have e:BH (p::l) k v=(k,v)::l:=by simp[BH,hlt,show ¬k<p.1 by omega,f1,f2]
   rw[e,Eg,Hw hg,if_neg hlt]
   simp[Db,Dq,hp]

theorem NZ {l:PL} (h:Asc l) {k v:Int} (hf:(Be l).contains k=false) :
  Be (BH l k v)=(Be l).take ((Be l).countP (fun x=>decide (x<k)))++k::(Be l).drop ((Be l).countP (fun x=>decide (x<k)))∧
  EH (BH l k v)=(EH l).take ((Be l).countP (fun x=>decide (x<k)))++v::(EH l).drop ((Be l).countP (fun x=>decide (x<k))):=by
 induction l with
 |nil=>simp[Be,EH,BH]
 |cons p l ih=>
  obtain⟨h1,h2⟩:=h.cons
  rw[contains_cons,Bool.or_eq_false_iff] at hf
  have hne:¬k=p.1:=by simpa using hf.1
  by_cases hlt:p.1<k
  ·have:=ih h2 hf.2
   have e:BH (p::l) k v=p::BH l k v:=by simp[BH,hlt,show ¬k<p.1 by omega]
   rw[e,Eg,if_pos hlt,Db,Db,Dq,Dq,this.1,this.2]
   simp
  ·have hg:∀q∈l,k<q.1:=fun q hq=>by have:=h1 q hq;omega
   obtain⟨f1,f2,_⟩:=E6 hg
   have e:BH (p::l) k v=(k,v)::p::l:=by simp[BH,hlt,show k<p.1 by omega,f1,f2]
   rw[e,Eg,Hw hg,if_neg hlt]
   simp[Db,Dq]

theorem Ls {l:PL} (h:Asc l) {k:Int} (hf:(Be l).contains k=true) :
  Be (C5 l k)=(Be l).take ((Be l).countP (fun x=>decide (x<k)))++(Be l).drop ((Be l).countP (fun x=>decide (x<k))+1)∧
  EH (C5 l k)=(EH l).take ((Be l).countP (fun x=>decide (x<k)))++(EH l).drop ((Be l).countP (fun x=>decide (x<k))+1):=by
 induction l with
 |nil=>simp[Be] at hf
 |cons p l ih=>
  obtain⟨h1,h2⟩:=h.cons
  by_cases hlt:p.1<k
  ·have hf' :(Be l).contains k=true:=by rw[contains_cons] at hf;simpa[show ¬k=p.1 by omega] using hf
   have:=ih h2 hf'
   have e:C5 (p::l) k=p::C5 l k:=by simp[C5,show ¬p.1=k by omega]
   rw[e,Eg,if_pos hlt,Db,Db,Dq,Dq,this.1,this.2]
   simp
  ·have hp:k=p.1:=by
    rw[contains_cons] at hf
    rcases Bool.or_eq_true _ _ ▸ hf with h' | h'
    ·simpa using h'
    ·have hm:k∈Be l:=by simpa using h'
     obtain⟨q,hq,e⟩:=List.mem_map.1 hm
     have:=h1 q hq;omega
   have hg:∀q∈l,k<q.1:=fun q hq=>by rw[hp];exact h1 q hq
   obtain⟨_,_,f3⟩:=E6 hg
   have e:C5 (p::l) k=l:=by rw[C5,List.filter_cons_of_neg (by simp[hp]),f3]
   rw[e,Eg,Hw hg,if_neg hlt]
   simp[Db,Dq]

theorem UP {l:PL} {k:Int} (hf:(Be l).contains k=false):C5 l k=l:=by
 rw[C5,List.filter_eq_self]
 intro q hq;simp only[ne_eq,decide_not,Bool.not_eq_eq_eq_not,Bool.not_true,decide_eq_false_iff_not]
 intro e;have:k∈Be l:=List.mem_map.2 ⟨q,hq,e⟩
 rw[Bool.eq_false_iff] at hf
 exact hf (by simpa using this)

theorem Vk {l:PL} (h:Asc l) (k:Int):(if (Be l).contains k then ((EH l).getD ((Be l).countP (fun x=>decide (x<k))) 0,true) else (0,false))=Aw l k:=by
 induction l with
 |nil=>simp[Be,Aw]
 |cons p l ih=>
  obtain⟨h1,h2⟩:=h.cons
  have:=ih h2
  rw[contains_cons,Eg,Aw,Dq]
  by_cases hlt:p.1<k
  ·rw[if_neg (show ¬p.1=k by omega),if_pos hlt, ← this]
   simp[show ¬k=p.1 by omega]
  ·by_cases he:p.1=k
   ·have hg:∀q∈l,k<q.1:=fun q hq=>by have:=h1 q hq;omega
    rw[Hw hg,if_neg hlt,if_pos he]
    simp[he.symm]
   ·have hg:∀q∈l,k<q.1:=fun q hq=>by have:=h1 q hq;omega
    rw[if_neg he, ← this,OJ hg]
    simp[show ¬k=p.1 by omega]

theorem L7 {l:PL} (h:Asc l) (k v:Int):Asc (BH l k v):=by
 show(Be (l.filter _++(k,v)::l.filter _)).Pairwise (· < ·)
 rw[Be,List.map_append,List.map_cons]
 refine List.pairwise_append.2 ⟨?_,List.pairwise_cons.2 ⟨?_, ?_⟩, ?_⟩
 ·exact List.pairwise_map.2 ((List.pairwise_map.1 h).filter _)
 ·intro a ha;obtain⟨q,hq,rfl⟩:=List.mem_map.1 ha
  simpa using(List.mem_filter.1 hq).2
 ·exact List.pairwise_map.2 ((List.pairwise_map.1 h).filter _)
 ·intro a ha b hb;obtain⟨q,hq,rfl⟩:=List.mem_map.1 ha
  have h1:q.1<k:=by simpa using(List.mem_filter.1 hq).2
  rcases List.mem_cons.1 hb with rfl|hb
  ·exact h1
  ·obtain⟨r,hr,rfl⟩:=List.mem_map.1 hb
   have h2:k<r.1:=by simpa using(List.mem_filter.1 hr).2
   omega
theorem UI {l:PL} (h:Asc l) (k:Int):Asc (C5 l k):=List.pairwise_map.2 ((List.pairwise_map.1 h).filter _)

def Od (p:Int × Int):Prop:=(0<=p.1/\p.1<=999)/\(-1000000000<=p.2/\p.2<=1000000000)
def Cy (l:PL):Prop:=Asc l/\∀p∈l,Od p

theorem Kv {l:PL} {i:Nat}:Fg l i=true↔Od (kOf l i,vOf l i)/\(i=0∨kOf l (i-1)<kOf l i):=by
 simp[Fg,Od,inB,and_assoc]

theorem Ef (l:PL):Bd l=true↔Cy l:=by
 constructor
 ·intro h;have hat:∀i,i<l.length->Fg l i=true:=fun i hi=>Ta h hi
  have hlt:∀j,j<l.length->∀i,i<j->kOf l i<kOf l j:=by
   intro j;induction j with
   |zero=>intro _ i hi;omega
   |succ j ih=>
    intro hj i hi;have h1:=(Kv.1 (hat (j+1) hj)).2
    have h2:kOf l j<kOf l (j+1):=by simpa using h1
    by_cases e:i=j
    ·subst e;exact h2
    ·have:=ih (by omega) i (by omega);omega
  have hk:∀i (hi:i<l.length),l[i]=(kOf l i,vOf l i):=fun i hi=>by simp[kOf,vOf,List.getD,hi]
  refine⟨?_, ?_⟩
  ·refine List.pairwise_map.2 (List.pairwise_iff_getElem.2 (fun i j hi hj hij=> ?_))
   rw[hk i hi,hk j hj]
   exact hlt j hj i hij
  ·intro p hp;obtain⟨i,hi,rfl⟩:=List.getElem_of_mem hp
   rw[hk i hi]
   exact(Kv.1 (hat i hi)).1
 ·rintro⟨h1,h2⟩
  have hk:∀i (hi:i<l.length),l[i]=(kOf l i,vOf l i):=fun i hi=>by simp[kOf,vOf,List.getD,hi]
  refine G0 (fun i hi=>Kv.2 ⟨?_, ?_⟩)
  ·rw[←hk i hi];exact h2 _ (List.getElem_mem hi)
  ·by_cases h0:i=0
   ·exact Or.inl h0
   ·right
    have:=List.pairwise_iff_getElem.1 (List.pairwise_map.1 h1) (i-1) i (by omega) hi (by omega)
    rw[hk i hi,hk (i-1) (by omega)] at this
    exact this

def A0 (x:Int):Int:=if x< -1000000000 then -1000000000 else if 1000000000<x then 1000000000 else x
theorem Jw (x:Int): -1000000000<=A0 x/\A0 x<=1000000000:=by unfold A0;split<;>(try split)<;>omega

def doP (l:PL) (m:Int × Int × Int):PL:=
 if m.1=1 then BH l m.2.1 m.2.2 else if m.1=2 then C5 l m.2.1 else if m.1=3 then BH l m.2.1 (A0 ((Aw l m.2.1).1+m.2.2)) else l
def doL (l:PL) (m:Int × Int × Int):PL:=if Bd l=true/\AJ m.1 m.2.1 m.2.2=true then doP l m else l
def Cb (l:PL) (ms:List (Int × Int × Int)):PL:=ms.foldl doL l

theorem Hy {l:PL} (h:Cy l) {k v:Int} (hk:0<=k/\k<=999) (hv: -1000000000<=v/\v<=1000000000):Cy (BH l k v):=by
 refine⟨L7 h.1 k v,fun p hp=> ?_⟩
 rcases List.mem_append.1 hp with h1|h1
 ·exact h.2 p (List.mem_filter.1 h1).1
 ·rcases List.mem_cons.1 h1 with rfl|h2
  ·exact⟨hk,hv⟩
  ·exact h.2 p (List.mem_filter.1 h2).1
theorem SY {l:PL} (h:Cy l) (k:Int):Cy (C5 l k):=⟨UI h.1 k,fun p hp=>h.2 p (List.mem_filter.1 hp).1⟩
theorem JP (l:PL) (k v:Int):(BH l k v).length<=l.length+1:=by
 have h:∀(l:PL),(l.filter (fun p=>decide (p.1<k))).length+(l.filter (fun p=>decide (k<p.1))).length<=l.length:=by
  intro l;induction l with
  |nil=>simp
  |cons p l ih=>
   by_cases h1:p.1<k
   ·have h2:¬k<p.1:=by omega
    simp[h1,h2];omega
   ·by_cases h2:k<p.1
    ·simp[h1,h2];omega
    ·simp[h1,h2];omega
 have:=h l
 simp[BH];omega
theorem JA (l:PL) (k:Int):(C5 l k).length<=l.length:=List.length_filter_le _ _

theorem Cw {o k v:Int} (h:AJ o k v=true):(1<=o/\o<=4)/\(0<=k/\k<=999)/\(-1000000000<=v/\v<=1000000000):=by
 simp only[AJ,Bool.and_eq_true,Ec] at h
 exact⟨h.1,h.2.1,h.2.2.1⟩

theorem Lf {l:PL} (h:Cy l) {m:Int × Int × Int} (hm:AJ m.1 m.2.1 m.2.2=true):Cy (doP l m):=by
 obtain⟨_,h2,h3⟩:=Cw hm
 unfold doP;split
 ·exact Hy h h2 h3
 ·split
  ·exact SY h _
  ·split
   ·exact Hy h h2 (Jw _)
   ·exact h
theorem Kl (l:PL) (m:Int × Int × Int):(doP l m).length<=l.length+1:=by
 unfold doP;split
 ·exact JP _ _ _
 ·split
  ·have:=JA l m.2.1;omega
  ·split
   ·exact JP _ _ _
   ·omega
theorem QQ (l:PL) (m:Int × Int × Int):(doL l m).length<=l.length+1:=by
 unfold doL;split
 ·exact Kl _ _
 ·omega
theorem Fd (l:PL) (ms:List (Int × Int × Int)):(Cb l ms).length<=l.length+ms.length:=by
 induction ms generalizing l with
 |nil=>simp[Cb]
 |cons m ms ih=>
  have h1:=ih (doL l m)
  have h2:=QQ l m
  simp only[Cb,List.foldl_cons,List.length_cons] at *
  omega
theorem Ri {l:PL} (h:Bd l=false) (m:Int × Int × Int):doL l m=l:=by simp[doL,h]
theorem OY {l:PL} (h:Bd l=false) (ms:List (Int × Int × Int)):Cb l ms=l:=by
 induction ms with
 |nil=>rfl
 |cons m ms ih=>rw[Cb,List.foldl_cons,Ri h];exact ih
theorem IH {l:PL} (h:Cy l) (m:Int × Int × Int):Cy (doL l m):=by
 unfold doL;split
 ·exact Lf h (by simp_all)
 ·exact h
theorem Jj {l:PL} (h:Cy l) (ms:List (Int × Int × Int)):Cy (Cb l ms):=by
 induction ms generalizing l with
 |nil=>exact h
 |cons m ms ih=>exact ih (IH h m)
end
section
def stp (k v:Int) (s:PL × Bool) (p:Int × Int):PL × Bool:=
 if s.2=false/\k<=p.1 then (if p.1=k then (s.1++[(k,v)],true) else (s.1++[(k,v)]++[p],true))
 else (if p.1=k then s else (s.1++[p],s.2))
def Gs (k v:Int) (l:PL) (i:Nat):PL × Bool:=(l.take i).foldl (stp k v) ([],false)
def Lw (k v:Int) (s:PL × Bool):PL:=if s.2=true then s.1 else s.1++[(k,v)]

theorem QO (k v:Int) (l:PL) (i:Nat) (h:i<l.length):Gs k v l (i+1)=stp k v (Gs k v l i) (kOf l i,vOf l i):=by
 have e:(kOf l i,vOf l i)=l[i]:=by simp[kOf,vOf,List.getD,h]
 rw[Gs,List.take_succ_eq_append_getElem h,List.foldl_append,e];rfl
theorem QK (k v:Int) (s:PL × Bool) (p:Int × Int):(stp k v s p).1.length<=s.1.length+2:=by
 unfold stp;split<;>split<;>simp
theorem IR (k v:Int) (l:PL) (i:Nat):(Gs k v l i).1.length<=2*i:=by
 have h:∀(l:PL) (s:PL × Bool),(l.foldl (stp k v) s).1.length<=s.1.length+2*l.length:=by
  intro l;induction l with
  |nil=>intro s;simp
  |cons p l ih=>
   intro s;have h1:=ih (stp k v s p)
   have h2:=QK k v s p
   rw[List.foldl_cons]
   simp only[List.length_cons]
   omega
 have:=h (l.take i) ([],false)
 have hl:(l.take i).length<=i:=List.length_take_le _ _
 unfold Gs;simp only[List.length_nil] at this
 omega

theorem Ov (k v:Int) (l:PL) (acc:PL):l.foldl (stp k v) (acc,true)=(acc++C5 l k,true):=by
 induction l generalizing acc with
 |nil=>simp[C5]
 |cons p l ih=>
  rw[List.foldl_cons]
  by_cases h:p.1=k
  ·rw[show stp k v (acc,true) p=(acc,true) by simp[stp,h],ih,C5,C5,List.filter_cons_of_neg (by simp[h])]
  ·rw[show stp k v (acc,true) p=(acc++[p],true) by simp[stp,h],ih,C5,C5,List.filter_cons_of_pos (by simp[h])]
   simp
theorem V4 {l:PL} (h:Asc l) (k v:Int) (acc:PL):Lw k v (l.foldl (stp k v) (acc,false))=acc++BH l k v:=by
 induction l generalizing acc with
 |nil=>simp[Lw,BH]
 |cons p l ih=>
  obtain⟨h1,h2⟩:=h.cons
  rw[List.foldl_cons]
  by_cases hlt:p.1<k
  ·rw[show stp k v (acc,false) p=(acc++[p],false) by simp[stp,show ¬k<=p.1 by omega,show ¬p.1=k by omega],ih h2]
   have e:BH (p::l) k v=p::BH l k v:=by simp[BH,hlt,show ¬k<p.1 by omega]
   rw[e];simp
  ·by_cases he:p.1=k
   ·have hg:∀q∈l,k<q.1:=fun q hq=>by have:=h1 q hq;omega
    obtain⟨f1,f2,f3⟩:=E6 hg
    rw[show stp k v (acc,false) p=(acc++[(k,v)],true) by simp[stp,he],Ov,C5,f3]
    have e:BH (p::l) k v=(k,v)::l:=by simp[BH,hlt,show ¬k<p.1 by omega,f1,f2]
    rw[e];simp[Lw]
   ·have hg:∀q∈l,k<q.1:=fun q hq=>by have:=h1 q hq;omega
    obtain⟨f1,f2,f3⟩:=E6 hg
    rw[show stp k v (acc,false) p=(acc++[(k,v)]++[p],true) by simp[stp,show k<=p.1 by omega,he],Ov,C5,f3]
    have e:BH (p::l) k v=(k,v)::p::l:=by simp[BH,hlt,show k<p.1 by omega,f1,f2]
    rw[e];simp[Lw]
theorem QV {l:PL} (h:Asc l) (k v:Int):Lw k v (Gs k v l l.length)=BH l k v:=by
 have:=V4 h k v []
 simpa[Gs] using this

theorem SQ (l:PL) (k:Int) (i:Nat) (h:i<l.length):C5 (l.take (i+1)) k=if kOf l i=k then C5 (l.take i) k else C5 (l.take i) k++[(kOf l i,vOf l i)]:=by
 have e:(kOf l i,vOf l i)=l[i]:=by simp[kOf,vOf,List.getD,h]
 rw[List.take_succ_eq_append_getElem h,C5,List.filter_append, ← e]
 by_cases hk:kOf l i=k
 ·simp[hk,C5]
 ·simp[hk,C5]
end
end Go.Proofs.YtadmomgdacfgpaaGreat
