/-
  The model's drawing of messages.
  The model's drawing of messages that may be wrong, and of rows of them.
  The model's drawing of maps, and of what chapter 1's functions are asked.
  The contract of the model's DrawWritten.
  Lists of what was done last as rows of cells; the laws' own functions on them, and slices.Equal of two.
  slices.Equal of two lists: pairs, and what was done; the model's l4SameMap.
  The laws' own samePairs.
  The laws' own big.
  Trees of messages as plain data, and what it is that a struct's value leads to one.
  What chapter 2 says of trees, as plain functions.
  Contracts of MapOk, the model's and the program's.
-/
import Derived.Test.YtadmomgdacfgpaaGreatOfInjd3
import Derived.Laws.StructEq
import Derived.BigQuiet
import Derived.Deep.QuietTactic
import Derived.Test.YtadmomgdacfgpaaGreatOfInjd2
namespace Go.Proofs.YtadmomgdacfgpaaGreat
set_option maxRecDepth 100000
set_option maxHeartbeats 8000000
section
open Go.RowKit

theorem WU {W:World} {R:Nat} {a b c:Value} (o k v:Value) (hR:W.heap[R]? =some (.cells #[a,b,c] 35 (0,0))) :
  (((W.setCell ⟨R,0,none⟩ o).setCell ⟨R,1,none⟩ k).setCell ⟨R,2,none⟩ v).heap[R]? =some (.cells #[o,k,v] 35 (0,0)):=by
 have h1:=heap_setCell_same W R 0 _ 35 o hR
 have h2:=heap_setCell_same _ R 1 _ 35 k h1
 have h3:=heap_setCell_same _ R 2 _ 35 v h2
 rw[h3];rfl
theorem WV {W:World} {R:Nat} {a b c:Value} (v:Value) (hR:W.heap[R]? =some (.cells #[a,b,c] 35 (0,0))):(W.setCell ⟨R,2,none⟩ v).heap[R]? =some (.cells #[a,b,v] 35 (0,0)):=by
 rw[heap_setCell_same W R 2 _ 35 v hR];rfl
theorem at3 {W:World} {R:Nat} {a b c:Value} (hR:W.heap[R]? =some (.cells #[a,b,c] 35 (0,0))) :
  (W.cell? ⟨R,0,none⟩=some a/\W.cell? ⟨R,1,none⟩=some b/\W.cell? ⟨R,2,none⟩=some c)/\(W.frozen? ⟨R,0,none⟩=false/\W.frozen? ⟨R,1,none⟩=false/\W.frozen? ⟨R,2,none⟩=false):=
 ⟨⟨by rw[Ae hR];rfl,by rw[Ae hR];rfl,by rw[Ae hR];rfl⟩,AC hR,AC hR,AC hR⟩

structure N8 (w:World) (C R M:Nat) (o k v:Int) (W:World):Prop where
 cur:Cur W C
 chg:Chg (fun g=>g=C) w W
 hR:∃a b c,W.heap[R]? =some (.cells #[a,b,c] 35 (0,0))
 hM:W.heap[M]? =some (.cells #[.int .i64 o, .int .i64 k, .int .i64 v] 35 (0,0))
 rR:w.heap.size<=R
 rM:w.heap.size<=M
 ne:R≠M
 nC:C<w.heap.size

theorem N8.fin {w:World} {C R M:Nat} {o k v:Int} {W:World} (h:N8 w C R M o k v W) :
  (Cur (((W.setCell ⟨R,0,none⟩ (.int .i64 o)).setCell ⟨R,1,none⟩ (.int .i64 k)).setCell ⟨R,2,none⟩ (.int .i64 v)) C∧
   Chg (fun g=>g=C) w (((W.setCell ⟨R,0,none⟩ (.int .i64 o)).setCell ⟨R,1,none⟩ (.int .i64 k)).setCell ⟨R,2,none⟩ (.int .i64 v)))∧
  ((((W.setCell ⟨R,0,none⟩ (.int .i64 o)).setCell ⟨R,1,none⟩ (.int .i64 k)).setCell ⟨R,2,none⟩ (.int .i64 v)).cell? ⟨R,0,none⟩=some (.int .i64 o)∧
   (((W.setCell ⟨R,0,none⟩ (.int .i64 o)).setCell ⟨R,1,none⟩ (.int .i64 k)).setCell ⟨R,2,none⟩ (.int .i64 v)).cell? ⟨R,1,none⟩=some (.int .i64 k)∧
   (((W.setCell ⟨R,0,none⟩ (.int .i64 o)).setCell ⟨R,1,none⟩ (.int .i64 k)).setCell ⟨R,2,none⟩ (.int .i64 v)).cell? ⟨R,2,none⟩=some (.int .i64 v)):=by
 obtain⟨a,b,c,hR⟩:=h.hR
 have hp:=WU (.int .i64 o) (.int .i64 k) (.int .i64 v) hR
 have hcW:Chg (fun g=>g=R) W (((W.setCell ⟨R,0,none⟩ (.int .i64 o)).setCell ⟨R,1,none⟩ (.int .i64 k)).setCell ⟨R,2,none⟩ (.int .i64 v)):=
  Chg.setAt (F:=fun g=>g=R) (Chg.setAt (F:=fun g=>g=R) (Chg.setAt (F:=fun g=>g=R) (Chg.refl _ _) _ _ rfl _) _ _ rfl _) _ _ rfl _
 refine⟨⟨?_, ?_⟩,(at3 hp).1⟩
 ·exact h.cur.chg hcW (fun g e=>by have:=h.rR;have:=h.nC;omega)
 ·exact(h.chg.trans hcW (fun g hg e=>by have:=h.rR;omega))

theorem Md (C:Nat) (w:World) (hc:Cur w C) :
  Calls Tryz.prog 24 #[.pointer (some ⟨C,0,none⟩)] w fun e w' =>∃o k v:Int,e= .returned (.agg #[.int .i64 o, .int .i64 k, .int .i64 v])/\Cur w' C/\Chg (fun g=>g=C) w w' :=by
 have hCw:=hc.lt
 have CU:Hid (Cur w C):=hc
 clear hc;go_enter Tryz.func24,Tryz.ntmps24
 go_wp2_with fail;have hs0:(w.alloc (.cells #[.int .i64 0, .int .i64 0, .int .i64 0] 35)).heap.size=w.heap.size+1:=by simp
 refine(Gh C (w.heap.size+1) [1,1,1,2,3,3,4] (by decide) (by decide) _ ((CU.out.alloc _).alloc _) (by rw[←hs0];exact heap_alloc_new _ _) (by omega)).mono ?_
 rintro e w1 ⟨o,rfl,ho,c1,g1⟩
 have G1:Chg (fun g=>g=C) w w1:=(((Chg.refl _ _).alloc _).alloc _).trans g1 (fun _ _ e=>e)
 have R1:w1.heap[w.heap.size]? =some (.cells #[.int .i64 0, .int .i64 0, .int .i64 0] 35 (0,0)):=by
  refine C9 ?_ g1 (by omega)
  rw[Below.heap_alloc _ _ _ (by omega)];exact heap_alloc_new _ _
 have F1:Hid _:=And.intro c1 (And.intro G1 R1)
 clear c1 g1 G1 R1;go_wp2_with fail;refine(Mj C _ F1.out.1).mono ?_
 rintro e w2 ⟨k,rfl,hk0,hk9,c2,g2⟩
 have R2:=C9 F1.out.2.2 g2 (by omega)
 have G2:=F1.out.2.1.trans g2 (fun _ _ e=>e)
 have hsz:w.heap.size<w2.heap.size:=(Array.getElem?_eq_some_iff.1 R2).1
 have F2:Hid _:=And.intro c2 (And.intro G2 R2)
 clear c2 g2 G2 R2 F1;have hcase:o=1∨o=2∨o=3∨o=4:=by simp at ho;omega
 clear ho;have E0:Hid (N8 w C w.heap.size w2.heap.size o k 0 (w2.alloc (.cells #[.int .i64 o, .int .i64 k, .int .i64 0] 35))):=
  ⟨F2.out.1.alloc _,F2.out.2.1.alloc _,⟨_,_,_,by rw[Below.heap_alloc _ _ _ hsz];exact F2.out.2.2⟩,heap_alloc_new _ _,Nat.le_refl _,by omega,by omega,hCw⟩
 have body:∀(o' :Int),o' =o->(o' =1∨o' =3)∨(o' =2∨o' =4):=by intro o' h;omega
 rcases body o rfl with hcs|hcs
 ·have q:(o==1)=true∨((o==1)=false/\(o==3)=true):=by rcases hcs with rfl|rfl<;>simp
  have M1:=E0.out.hM
  obtain⟨⟨m0,m1,m2⟩,n0,n1,n2⟩:=at3 M1
  clear body hcase hcs M1;rcases q with q|⟨q,q3⟩
  all_goals
   go_wp2_with fail;refine(F5 C 99 _ E0.out.cur (by decide)).mono ?_
   rintro e w3 ⟨y,rfl,hy0,hy1,_,c3,g3⟩
   have R3:=C9 E0.out.hR.choose_spec.choose_spec.choose_spec g3 (by omega)
   have M3:=C9 E0.out.hM g3 (by omega)
   have hsz3:w2.heap.size<w3.heap.size:=(Array.getElem?_eq_some_iff.1 M3).1
   have G3:=E0.out.chg.trans g3 (fun _ _ e=>e)
   have F3:Hid _:=And.intro c3 (And.intro G3 (And.intro R3 M3))
   clear c3 g3 G3 R3 M3;go_wp2_with fail;refine(Gh C w3.heap.size [1, -2,5,700,1000000000, -1000000000,y] (by simp) (by simp) _ (F3.out.1.alloc _) (heap_alloc_new _ _) (by omega)).mono ?_
   rintro e w4 ⟨vv,rfl,_,c4,g4⟩
   have R4:=C9 (show(w3.alloc (.cells ([1, -2,5,700,1000000000, -1000000000,y].map (Value.int .i64)).toArray 3)).heap[w.heap.size]? =_ by rw[Below.heap_alloc _ _ _ (by omega)];exact F3.out.2.2.1) g4 (by omega)
   have M4:=C9 (show(w3.alloc (.cells ([1, -2,5,700,1000000000, -1000000000,y].map (Value.int .i64)).toArray 3)).heap[w2.heap.size]? =_ by rw[Below.heap_alloc _ _ _ (by omega)];exact F3.out.2.2.2) g4 (by omega)
   have G4:=(F3.out.2.1.alloc (.cells ([1, -2,5,700,1000000000, -1000000000,y].map (Value.int .i64)).toArray 3)).trans g4 (fun _ _ e=>e)
   obtain⟨⟨a0,a1,a2⟩,b0,b1,b2⟩:=at3 M4
   have M5:=WV (.int .i64 vv) M4
   have cM:Chg (fun g=>g=w2.heap.size) w4 (w4.setCell ⟨w2.heap.size,2,none⟩ (.int .i64 vv)):=Chg.setAt (F:=fun g=>g=w2.heap.size) (Chg.refl _ _) _ _ rfl _
   have E5:N8 w C w.heap.size w2.heap.size o k vv (w4.setCell ⟨w2.heap.size,2,none⟩ (.int .i64 vv)):=
    ⟨c4.chg cM (fun g e=>by omega),G4.trans cM (fun g hg e=>by omega),⟨_,_,_,C9 R4 cM (by omega)⟩,M5,Nat.le_refl _,by omega,by omega,hCw⟩
   obtain⟨⟨x0,x1,x2⟩,z0,z1,z2⟩:=at3 M5
   obtain⟨⟨r0,r1,r2⟩,t0,t1,t2⟩:=at3 (C9 R4 cM (by omega))
   have FIN:Hid _:=E5.fin
   clear R4 M4 G4 M5 cM E5 c4 g4;go_wp2;obtain⟨⟨k1,k2⟩,q0,q1,q2⟩:=FIN.out
   exact bodyPost_ret (v:= .agg #[.int .i64 o, .int .i64 k, .int .i64 vv]) (by simp[results,Tryz.results24,go_sem,q0,q1,q2]) rfl ⟨o,k,vv,rfl,k1,k2⟩
 ·have q1:(o==1)=false:=by rcases hcs with rfl|rfl<;>simp
  have q3:(o==3)=false:=by rcases hcs with rfl|rfl<;>simp
  have M1:=E0.out.hM
  obtain⟨⟨m0,m1,m2⟩,n0,n1,n2⟩:=at3 M1
  obtain⟨⟨r0,r1,r2⟩,t0,t1,t2⟩:=at3 F2.out.2.2
  have FIN0:=E0.out.fin
  rw[World.setCell_alloc_past _ _ _ _ hsz,World.setCell_alloc_past _ _ _ _ (by simpa using hsz),World.setCell_alloc_past _ _ _ _ (by simpa using hsz)] at FIN0
  have FIN:Hid _:=FIN0
  clear body hcase hcs M1 FIN0;go_wp2;obtain⟨⟨k1,k2⟩,q0,q1,q2⟩:=FIN.out
  exact bodyPost_ret (v:= .agg #[.int .i64 o, .int .i64 k, .int .i64 0]) (by simp[results,Tryz.results24,go_sem,q0,q1,q2]) rfl ⟨o,k,0,rfl,k1,k2⟩
end
section
open Go.RowKit
end
section
open Go.RowKit
end
section
open Go.RowKit

theorem QI (v:Value) (bs:List Int) (w:World) (hc:JH w v bs) (hn:bs.length<=1048576) :
  Calls Tryz.prog 23 #[v, .int .i64 30, .int .i64 120] w fun e w' =>w' =w/\∃n:Nat,e= .returned (.int .i64 n)/\n<=120:=by
 obtain⟨⟨a,b,off,cap,rfl,hcap,hmax,_⟩,_⟩:=hc
 unfold maxLen at hmax;have hle:bs.length<=9223372036854775807:=by omega
 generalize bs.length=k at *
 have hq:(0:Int)<=(k:Int).tdiv 4/\(k:Int).tdiv 4<=k:=by
  rw[Int.tdiv_eq_ediv_of_nonneg (by omega)]
  omega
 obtain⟨q,hq1⟩:=Int.eq_ofNat_of_zero_le hq.1
 have hq2:q<=k:=by omega
 go_enter Tryz.func23,Tryz.ntmps23
 by_cases h:30+q>120
 ·go_wp2;go_ret;exact⟨rfl,120,rfl,Nat.le_refl _⟩
 ·go_wp2;go_ret;exact⟨rfl,30+q,by go_num,by omega⟩

theorem Kc (v:Value) (bs:List Int) (w:World) (hc:JH w v bs) (hn:bs.length<=1048576) :
  Calls Tryz.prog 6 #[v] w fun e w' =>∃(v1:Value) (ms:ML),e= .returned v1/\ms.length<=120/\w'.ownsRow w.heap.size 35 3 v1 ms.length (Af ms)/\Below w.heap.size w w' :=by
 obtain⟨i0,hi,hz0,hz1,hz2⟩:=info_parts Tryz.info35
 have HL:=hid (fun u (hu:Below w.heap.size w u)=>QI v bs u (hc.below hu) hn)
 go_enter Tryz.func6,Tryz.ntmps6
 go_wp2_with fail;refine(To v bs _ hc hn).mono ?_
 rintro e w1 ⟨rfl,c1,hlt,b1⟩
 have I1:=hid (And.intro c1 b1)
 clear c1 b1 hc;have HA:=hid (HL.out _ (I1.out.2.alloc (Nat.le_of_lt hlt) (.cells #[] 35)))
 clear HL;go_wp2_with fail;refine Calls.mono HA.out ?_
 rintro e w2 ⟨rfl,nn,rfl,hn120⟩
 have O1:Hid ((w1.alloc (.cells #[] 35)).ownsRow w1.heap.size 35 3 (.slice (some ⟨w1.heap.size,0,none⟩) 0 0) 0 []):=De w1 w1.heap.size 35 3 (Nat.le_refl _)
 have START:=hid (And.intro (I1.out.1.alloc (.cells #[] 35)) ((Chg.refl (fun g=>g=w.heap.size) w1).alloc (.cells #[] 35)))
 have HC:=hid hlt
 clear HA;go_wp2;go_loopw [4,6] (fun out i wr=>∃(k:Nat) (ms:ML),k<=nn/\i= .int .i64 k/\ms.length=k/\wr.ownsRow w1.heap.size 35 3 out ms.length (Af ms)/\Cur wr w.heap.size/\Chg (fun g=>g=w.heap.size) w1 wr)
  (fun _ i _=>nn-(intOf i).toNat)
 case atStart=>exact⟨0,[],Nat.zero_le _,rfl,rfl,O1.out,START.out.1,START.out.2⟩
 case round=>
  obtain⟨k,ms,hk,rfl,hml,hown,hcur,hch⟩:=hrel
  clear START O1;by_cases hlt2:k<nn
  ·have HM:Hid (ms.length=k):=hml
   have hml2:ms.length<=2000:=by omega
   have INFO:=hid (And.intro hown (And.intro hcur hch))
   clear hml hown hcur hch;go_wp2_with fail;refine(Md w.heap.size _ INFO.out.2.1).mono ?_
   rintro e w3 ⟨o,kk,x,rfl,c2,g2⟩
   have O3:=Az INFO.out.1 g2 (fun g hg e=>by have:=(INFO.out.1.lt g hg).1;have:=HC.out;omega)
   have G3:=INFO.out.2.2.trans g2 (fun _ _ e=>e)
   have I3:=hid (And.intro c2 G3)
   have HR:=hid (Bb (n:=ms.length) (bytes:=24) (by omega) (by decide))
   have hbs:w1.heap.size<=w3.heap.size:=G3.size
   have H1:Hid (∀u∈[Value.int .i64 o, .int .i64 kk, .int .i64 x],u.oneCell' =true):=fun u hu=>by simp at hu;rcases hu with rfl|rfl|rfl<;>rfl
   clear c2 g2 G3 INFO;go_wp2_with (at_builtin;refine Bm w3 rfl _ _ 24 rfl w1.heap.size 35 i0 _ 3 24 Tryz.underlying24 hi hz0 hz1 hz2 rfl (by decide) _ _ _ (by rfl) O3 [.int .i64 o, .int .i64 kk, .int .i64 x] rfl rfl H1.out HR.out.1 HR.out.2 hbs ?_)
   intro v4 w4 ho4 hg4 _;have FIN:=hid (And.intro ho4 (And.intro (I3.out.1.chg hg4 (fun g e=>by have:=(O3.lt g e).1;have:=HC.out;omega)) (I3.out.2.trans hg4 (fun g hg e=>by have:=(O3.lt g e).1;omega))))
   clear ho4 hg4 O3;go_wp2;go_roundw
   case rel=>exact⟨k+1,ms++[(o,kk,x)],by omega,by go_num,by simp[HM.out],by rw[BI,List.length_append];exact FIN.out.1,FIN.out.2.1,FIN.out.2.2⟩
   case measure=>simp[intOf];omega
  ·have FIN:=hid (And.intro (AK hown (Nat.le_of_lt HC.out)) (I1.out.2.trans (hch.below (fun g _ e=>by omega) (Nat.le_of_lt HC.out))))
   have hle:ms.length<=120:=by omega
   clear hown hcur hch;go_wp2;go_ret;exact⟨_,ms,rfl,hle,FIN.out.1,FIN.out.2⟩
end
section
open Go.RowKit

abbrev Dn:=Int × Int × Int × Bool
abbrev DL:=List Dn
abbrev dn0:Dn:=(0,0,0,false)
def dC (l:DL) (i:Nat):Int:=(l.getD i dn0).1
def dS (l:DL) (i:Nat):Int:=(l.getD i dn0).2.1
def dV (l:DL) (i:Nat):Int:=(l.getD i dn0).2.2.1
def dH (l:DL) (i:Nat):Bool:=(l.getD i dn0).2.2.2
def WY (l:DL):List Value:=l.flatMap fun m=>[.int .i64 m.1, .int .i64 m.2.1, .int .i64 m.2.2.1, .bool m.2.2.2]
def WE (p q:Dn):Bool:=decide (p=q)
abbrev dnV (a b c:Int) (d:Bool):Value:= .agg #[.int .i64 a, .int .i64 b, .int .i64 c, .bool d]

def WG (l:DL) (k:Nat):DL:=l.take k++List.replicate (l.length-k) dn0
end
section
open Go.RowKit

theorem Tryz.neqP (a b c d:Int) (w:World):(binOp .neq 41 (.agg #[.int .i64 a, .int .i64 b]) (.agg #[.int .i64 c, .int .i64 d])).run Tryz.prog w= .ok (.bool (!(decide (a=c/\b=d)))) w:=by
 have u3:=Tryz.underlying3
 have a3:=Tryz.isAgg3
 have z3:=Tryz.sizeOf3
 have hS:Tryz.prog.underlying 41=some (.struct (Tryz.prog.fieldsOf 41)):=by kernel_rfl
 have hp:Tryz.prog.stoodInHeld 41=false:=by kernel_rfl
 rw[run_neq_struct,show(10000:Nat)=9999+1 from rfl,run_equalIn_agg w 9999 41 _ _ hS hp]
 simp only[Program.fieldsOf,Tryz.underlying41]
 go_simp
 by_cases h1:a=c<;>by_cases h2:b=d<;>simp[h1,h2]
theorem Tryz.guardP:Tryz.prog.eqGuardType Tryz.prog.depth 41=false:=by kernel_rfl

theorem Wq {l1 l2:PL} (hl:l1.length=l2.length) (h:∀i,i<l1.length->kOf l1 i=kOf l2 i/\vOf l1 i=vOf l2 i):l1=l2:=by
 apply List.ext_getElem hl
 intro i h1 h2;have:=h i h1
 simp only[kOf,vOf,List.getD,List.getElem?_eq_getElem h1,List.getElem?_eq_getElem h2,Option.getD_some] at this
 exact Prod.ext this.1 this.2
end
section
open Go.RowKit

theorem Ge (v1 v2:Value) (l1 l2:PL) (w:World) (h1:Row w v1 l1.length (Aq l1)) (h2:Row w v2 l2.length (Aq l2)) :
  Calls Tryz.prog 11 #[v1,v2] w fun e w' =>e= .returned (.bool (decide (l1=l2)))/\Below w.heap.size w w' :=by
 obtain⟨a,b,off,cap,rfl,hcap,hmax,ha,hk,hv⟩:=h1.pairs
 obtain⟨a2,b2,off2,cap2,rfl,hcap2,hmax2,ha2,hk2,hv2⟩:=h2.pairs
 unfold maxLen at hmax hmax2;by_cases hl:l1.length=l2.length
 ·have hne:((l1.length:Int) != (l2.length:Int))=false:=by rw[bne_eq_false_iff_eq];omega
  have HL:Hid (l1.length=l2.length):=hl
  have hl2:l1.length<=l2.length:=by omega
  clear hl;go_enter Tryz.func11,Tryz.ntmps11
  go_wp2;go_loopw [5] (fun i wr=>∃k:Nat,k<=l1.length/\i= .int .i64 k/\(∀i,i<k->kOf l1 i=kOf l2 i/\vOf l1 i=vOf l2 i)/\Below w.heap.size w wr)
   (fun i _=>l1.length-(intOf i).toNat)
  case atStart=>exact⟨0,Nat.zero_le _,rfl,fun i hi=>absurd hi (Nat.not_lt_zero _),Below.refl _ _⟩
  case round=>
   obtain⟨k,hkl,rfl,hall,hb⟩:=hrel
   have ALL:Hid (∀i,i<k->kOf l1 i=kOf l2 i/\vOf l1 i=vOf l2 i):=hall
   clear hall;by_cases hlt:k<l1.length
   ·have hal:=ha (by omega)
    subst hal;have hal2:=ha2 (by omega)
    subst hal2;have hlt2:k<l2.length:=by omega
    have d1:=(hb.cell (by exact Aa (hk k hlt))).trans (hk k hlt)
    have d2:=(hb.cell (by exact Aa (hv k hlt))).trans (hv k hlt)
    have d4:=(hb.cell (by exact Aa (hk2 k hlt2))).trans (hk2 k hlt2)
    have d5:=(hb.cell (by exact Aa (hv2 k hlt2))).trans (hv2 k hlt2)
    have hg:=Tryz.guardP
    have hq:=Tryz.neqP (kOf l1 k) (vOf l1 k) (kOf l2 k) (vOf l2 k)
    clear hk hv ha hk2 hv2 ha2;by_cases he:kOf l1 k=kOf l2 k/\vOf l1 k=vOf l2 k
    ·rw[decide_eq_true he,Bool.not_true] at hq
     have EQ:Hid _:=he
     clear he;go_wp2;go_quiet (fail)
     go_wp2;go_roundw
     case rel=>exact⟨k+1,by omega,by go_num,fun i hi=>if h:i<k then ALL.out i h else by rw[show i=k by omega];exact EQ.out,below_drewN hb _⟩
     case measure=>simp[intOf];omega
    ·rw[decide_eq_false he,Bool.not_false] at hq
     have NE:Hid (decide (l1=l2)=false):=decide_eq_false (fun e=>he (by subst e;exact⟨rfl,rfl⟩))
     clear he;go_wp2;go_quiet (fail)
     go_wp2;go_ret;exact⟨AM NE.out.symm,below_drewN hb _⟩
   ·go_wp2;go_ret;refine⟨AM ?_,hb⟩
    symm
    rw[decide_eq_true_iff]
    exact Wq HL.out (fun i hi=>ALL.out i (by omega))
 ·have hne:((l1.length:Int) != (l2.length:Int))=true:=by rw[bne_iff_ne];omega
  go_enter Tryz.func11,Tryz.ntmps11
  go_wp2;go_ret;refine⟨AM ?_,Below.refl _ _⟩
  symm
  rw[decide_eq_false_iff_not]
  intro h;exact hl (by rw[h])
end
section
open Go.RowKit

theorem Ry (a:Option Addr) (n cap:Nat) (hn:n<=maxLen) (w:World) :
  Calls Tryz.prog 5 #[.slice a n cap] w fun e w' =>e= .returned (.bool (decide (n>1048576)))/\w' =w:=by
 unfold maxLen at hn;by_cases h:n>1048576
 ·have hd:decide ((n:Int)>1048576)=true:=decide_eq_true (by omega)
  go_enter Tryz.func5,Tryz.ntmps5
  go_wp2;go_ret;exact⟨AM (by simp[h];try omega),rfl⟩
 ·go_enter Tryz.func5,Tryz.ntmps5
  go_wp2;go_ret;exact⟨AM (by simp[h];try omega),rfl⟩
end
section
open Go.RowKit

structure Tr where
 leaf:Bool
 pairs:List (Int × Int)
 cuts:List Int
 kids:List Tr
 buf:ML

structure TV where
 lf:Bool
 p:Value
 c:Value
 k:Value
 b:Value

def TV.cells (x:TV):List Value:=[.bool x.lf,x.p,x.c,x.k,x.b]
abbrev TV.val (x:TV):Value:= .agg #[.bool x.lf,x.p,x.c,x.k,x.b]
def Ao (l:List TV):List Value:=l.flatMap TV.cells
def Ad (l:List Int):List Value:=l.map (.int .i64)

def Am:Tr:=⟨true,[],[],[],[]⟩
def WM:TV:=⟨false, .slice none 0 0, .slice none 0 0, .slice none 0 0, .slice none 0 0⟩
def Ba (T:Tr) (i:Nat):Tr:=T.kids.getD i Am
def Xd (T:Tr) (i:Nat):Int:=T.cuts.getD i 0
def iAt (l:List Int) (i:Nat):Int:=l.getD i 0
def Ay (l:List TV) (i:Nat):TV:=l.getD i WM

theorem Bo (l:List Int):(Ad l).length=l.length:=by simp[Ad]
theorem Pb (l:List Int) (i:Nat) (h:i<l.length):(Ad l)[i]? =some (.int .i64 (iAt l i)):=by simp[Ad,iAt,List.getD,h]
theorem EK (x:TV) (l:List TV):Ao (x::l)= .bool x.lf::x.p::x.c::x.k::x.b::Ao l:=rfl
theorem Ez (l m:List TV):Ao (l++m)=Ao l++Ao m:=by simp[Ao,List.flatMap_append]
theorem Bf (l:List TV):(Ao l).length=l.length*5:=by
 induction l with
 |nil=>rfl
 |cons a l ih=>rw[EK];simp only[List.length_cons];omega
theorem FV (l:List TV):∀i,i<l.length->(Ao l)[i*5]? =some (.bool (Ay l i).lf)/\(Ao l)[i*5+1]? =some (Ay l i).p/\(Ao l)[i*5+2]? =some (Ay l i).c/\(Ao l)[i*5+3]? =some (Ay l i).k/\(Ao l)[i*5+4]? =some (Ay l i).b:=by
 induction l with
 |nil=>intro i h;simp at h
 |cons a l ih=>
  intro i h
  cases i with
  |zero=>simp[EK,Ay]
  |succ i=>
   have:=ih i (by simpa using h)
   rw[show(i+1)*5=i*5+1+1+1+1+1 by omega,EK]
   rw[show i*5+1+1+1+1+1+1=(i*5+1)+1+1+1+1+1 by omega,show i*5+1+1+1+1+1+2=(i*5+2)+1+1+1+1+1 by omega,show i*5+1+1+1+1+1+3=(i*5+3)+1+1+1+1+1 by omega,show i*5+1+1+1+1+1+4=(i*5+4)+1+1+1+1+1 by omega]
   simpa[Ay] using this
theorem Row.ints {w:World} {v:Value} {l:List Int} (h:Row w v l.length (Ad l)) :
  ∃(a:Option Addr) (b off cap:Nat),v= .slice a l.length cap/\l.length<=cap/\cap<=maxLen/\(0<l.length->a=some ⟨b,off,none⟩)∧
   (∀i,i<l.length->w.cell? ⟨b,off+i,none⟩=some (.int .i64 (iAt l i))):=by
 obtain⟨a,b,off,cap,h1,h2,h3,h4,h5,_⟩:=h
 exact⟨a,b,off,cap,h1,h2,h3,h4,fun i hi=>h5 _ _ (Pb l i hi)⟩
theorem Row.trees {w:World} {v:Value} {l:List TV} (h:Row w v l.length (Ao l)) :
  ∃(a:Option Addr) (b off cap:Nat),v= .slice a l.length cap/\l.length<=cap/\cap<=maxLen/\(0<l.length->a=some ⟨b,off,none⟩)∧
   (∀i,i<l.length->w.cell? ⟨b,off+i*5,none⟩=some (.bool (Ay l i).lf))/\(∀i,i<l.length->w.cell? ⟨b,off+i*5+1,none⟩=some (Ay l i).p)/\(∀i,i<l.length->w.cell? ⟨b,off+i*5+2,none⟩=some (Ay l i).c)∧
   (∀i,i<l.length->w.cell? ⟨b,off+i*5+3,none⟩=some (Ay l i).k)/\(∀i,i<l.length->w.cell? ⟨b,off+i*5+4,none⟩=some (Ay l i).b):=by
 obtain⟨a,b,off,cap,h1,h2,h3,h4,h5,_⟩:=h
 exact⟨a,b,off,cap,h1,h2,h3,h4,fun i hi=>h5 _ _ (FV l i hi).1,fun i hi=>h5 _ _ (FV l i hi).2.1,fun i hi=>h5 _ _ (FV l i hi).2.2.1,fun i hi=>h5 _ _ (FV l i hi).2.2.2.1,fun i hi=>h5 _ _ (FV l i hi).2.2.2.2⟩
theorem Row.len {w:World} {v:Value} {n:Nat} {xs:List Value} (h:Row w v n xs):∃(a:Option Addr) (cap:Nat),v= .slice a n cap/\n<=maxLen:=by
 obtain⟨a,b,off,cap,h1,h2,h3,_⟩:=h
 exact⟨a,cap,h1,Nat.le_trans h2 h3⟩

def AO:Nat->World->TV->Tr->Prop
 |0,_,_,_=>False
 | n + 1, w, x, T => x.lf = T.leaf ∧ Row w x.p T.pairs.length (Aq T.pairs) ∧ Row w x.c T.cuts.length (Ad T.cuts) ∧ Row w x.b T.buf.length (Af T.buf) ∧
   ∃xs:List TV,xs.length=T.kids.length/\Row w x.k xs.length (Ao xs)/\∀i,i<xs.length->AO n w (Ay xs i) (Ba T i)

def Kh (n:Nat) (w:World) (v:Value) (ts:List Tr):Prop:=
 ∃xs:List TV,xs.length=ts.length/\Row w v xs.length (Ao xs)/\∀i,i<xs.length->AO n w (Ay xs i) (ts.getD i Am)

theorem AO.below:∀ {n:Nat} {w w' :World} {x:TV} {T:Tr},AO n w x T->Below w.heap.size w w' ->AO n w' x T
 |0,_,_,_,_,h,_=>h
 |_+1,_,_,_,_,⟨h1,h2,h3,h4,xs,h5,h6,h7⟩,hb=>⟨h1,h2.below hb,h3.below hb,h4.below hb,xs,h5,h6.below hb,fun i hi=>(h7 i hi).below hb⟩
theorem AO.parts {n:Nat} {w:World} {x:TV} {T:Tr} (h:AO (n+1) w x T) :
  x.lf=T.leaf/\Row w x.p T.pairs.length (Aq T.pairs)/\Row w x.c T.cuts.length (Ad T.cuts)/\Row w x.b T.buf.length (Af T.buf)/\Kh n w x.k T.kids:=by
 obtain⟨h1,h2,h3,h4,xs,h5,h6,h7⟩:=h
 exact⟨h1,h2,h3,h4,xs,h5,h6,h7⟩
def AU:Nat->Tr->Nat
 |0,_=>0
 |n+1,T=>T.pairs.length+(T.cuts.length+(T.kids.length+(T.kids.map (AU n)).sum+T.buf.length))
def WO (n:Nat) (ts:List Tr):Nat:=ts.length+(ts.map (AU n)).sum
def Ia (n:Nat) (ts:List Tr) (k:Nat):Nat:=((ts.take k).map (AU n)).sum
theorem Mc (n:Nat) (ts:List Tr) (k:Nat) (h:k<ts.length):Ia n ts (k+1)=Ia n ts k+AU n (ts.getD k Am):=by
 rw[Ia,Ia,List.take_succ_eq_append_getElem h,List.map_append,List.sum_append]
 simp[List.getD,h]
theorem Ui (n:Nat) (ts:List Tr):Ia n ts ts.length=(ts.map (AU n)).sum:=by simp[Ia]
theorem Un (n:Nat) (ts:List Tr):∀k,Ia n ts k<=(ts.map (AU n)).sum:=by
 intro k;have h:(ts.map (AU n)).sum=((ts.take k).map (AU n)).sum+((ts.drop k).map (AU n)).sum:=by
  rw[←List.sum_append, ← List.map_append,List.take_append_drop]
 rw[Ia,h]
 omega
theorem I7 {n:Nat} {T:Tr} {i:Nat} (hi:i<T.kids.length):AU n (Ba T i)+T.kids.length<=AU (n+1) T:=by
 have h1:=Un n T.kids (i+1)
 rw[Mc n T.kids i hi] at h1
 show AU n (T.kids.getD i Am)+_<=T.pairs.length+(T.cuts.length+(T.kids.length+(T.kids.map (AU n)).sum+T.buf.length))
 omega

def WX (left:Int) (n:Nat):Int:=if (n:Int)<=left then left-n else -1
end
section
def Mk (n:Nat) (f:Nat->Bool):Bool:=(List.range n).all f
theorem Dr {n:Nat} {f:Nat->Bool} (h:∀i,i<n->f i=true):Mk n f=true:=by
 simp only[Mk,List.all_eq_true,List.mem_range];exact h
theorem EP {n:Nat} {f:Nat->Bool} {i:Nat} (hi:i<n) (h:f i=false):Mk n f=false:=by
 rw[Bool.eq_false_iff]
 intro hc;simp only[Mk,List.all_eq_true,List.mem_range] at hc
 rw[hc i hi] at h
 cases h
theorem GP {n:Nat} {f:Nat->Bool} (h:Mk n f=true) {i:Nat} (hi:i<n):f i=true:=by
 simp only[Mk,List.all_eq_true,List.mem_range] at h
 exact h i hi

def Ff (T:Tr) (lo hi:Int) (i:Nat):Bool:=inB (kOf T.pairs i) lo (hi-1)
def Gt (T:Tr) (lo hi:Int):Bool:=Mk T.pairs.length (Ff T lo hi)
def Bl (T:Tr) (lo hi:Int):Bool:=Bd T.pairs&&(decide (T.pairs.length<=4)&&(decide (T.cuts.length+T.kids.length+T.buf.length=0)&&Gt T lo hi))
def Ev (T:Tr) (lo hi:Int) (i:Nat):Bool:=AJ (mO T.buf i) (mK T.buf i) (mV T.buf i)&&(!(mO T.buf i==4)&&inB (mK T.buf i) lo (hi-1))
def GL (T:Tr) (lo hi:Int):Bool:=Mk T.buf.length (Ev T lo hi)
def Da (T:Tr) (lo:Int) (i:Nat):Int:=if i=0 then lo else iAt T.cuts (i-1)
def toT (T:Tr) (hi:Int) (i:Nat):Int:=if i<T.cuts.length then iAt T.cuts i else hi
def FN (T:Tr) (lo hi:Int) (i:Nat):Bool:=inB (iAt T.cuts i) (Da T lo i+1) (hi-1)
def E8 (T:Tr) (lo hi:Int):Bool:=Mk T.cuts.length (FN T lo hi)
def DZ (T:Tr):Bool:=decide (T.pairs.length=0)&&(decide (2<=T.kids.length/\T.kids.length<=4)&&(decide (T.cuts.length+1=T.kids.length)&&decide (T.buf.length<=6)))
def Bn (T:Tr) (lo hi:Int):Bool:=DZ T&&(GL T lo hi&&E8 T lo hi)
def DY (d:Nat->Nat) (n:Nat):Nat:=if (!(d 0==0)&&Mk n fun i=>d i==d 0)=true then d 0+1 else 0
def AE:Nat->Tr->Int->Int->Nat
 |0,_,_,_=>0
 |m+1,T,lo,hi=>if T.leaf=true then (if Bl T lo hi=true then 1 else 0) else if Bn T lo hi=true then DY (fun i=>AE m (Ba T i) (Da T lo i) (toT T hi i)) T.kids.length else 0
def Cm (m:Nat) (T:Tr) (lo hi:Int) (i:Nat):Nat:=AE m (Ba T i) (Da T lo i) (toT T hi i)

theorem Cu {m:Nat} {T:Tr} {lo hi:Int} (h:T.leaf=true):AE (m+1) T lo hi=if Bl T lo hi=true then 1 else 0:=by rw[AE,if_pos h]
theorem Jv {m:Nat} {T:Tr} {lo hi:Int} (h:T.leaf=false) (hf:Bn T lo hi=false):AE (m+1) T lo hi=0:=by
 rw[AE,if_neg (by rw[h];decide),if_neg (by rw[hf];decide)]
theorem Cv {m:Nat} {T:Tr} {lo hi:Int} (h:T.leaf=false) (hf:Bn T lo hi=true):AE (m+1) T lo hi=DY (Cm m T lo hi) T.kids.length:=by
 rw[AE,if_neg (by rw[h];decide),if_pos hf];rfl
theorem GQ {d:Nat->Nat} {n i:Nat} (hi:i<n) (h:d i=0):DY d n=0:=by
 rw[DY,if_neg]
 intro hc;simp only[Bool.and_eq_true] at hc
 have:=GP hc.2 hi
 simp only[beq_iff_eq] at this
 rw[h] at this
 rw[←this] at hc
 simp at hc
theorem Gk {d:Nat->Nat} {n i:Nat} (hi:i<n) (h:d i≠d 0):DY d n=0:=by
 rw[DY,if_neg]
 intro hc;simp only[Bool.and_eq_true] at hc
 have:=GP hc.2 hi
 simp only[beq_iff_eq] at this
 exact h this
theorem EZ {d:Nat->Nat} {n:Nat} (h0:d 0≠0) (h:∀i,i<n->d i=d 0):DY d n=d 0+1:=by
 rw[DY,if_pos]
 simp only[Bool.and_eq_true]
 refine⟨by simpa using h0,Dr fun i hi=>by simpa using h i hi⟩
theorem Vp {d:Nat->Nat} {n m:Nat} (h:∀i,d i<=m):DY d n<=m+1:=by
 unfold DY;split
 ·have:=h 0;omega
 ·omega
theorem Gq:∀(m:Nat) (T:Tr) (lo hi:Int),AE m T lo hi<=m
 |0,_,_,_=>by simp[AE]
 |m+1,T,lo,hi=>by
  rw[AE]
  split
  ·split<;>omega
  ·split
   ·exact Vp fun i=>Gq m _ _ _
   ·omega

def Vc:Nat->Tr->Nat
 |0,_=>0
 |n+1,T=>T.pairs.length+(T.kids.map (Vc n)).sum
def Wb:Nat->Tr->Nat
 |0,_=>0
 |n+1,T=>T.buf.length+(T.kids.map (Wb n)).sum
def Xc (f:Tr->Nat) (ts:List Tr) (k:Nat):Nat:=((ts.take k).map f).sum
def WW (l:List Int) (k:Int):Nat:=(l.filter fun c=>decide (c<=k)).length

def Al (T:Tr):Nat:=AE 7 T 0 1000
def okT (T:Tr):Bool:=decide (0<Al T)
end
section
open Go.RowKit

theorem Iw {l:List (Int × Int)} {k:Nat} (h:inB (kOf l k) 0 999=false):Fg l k=false:=by simp[Fg,h]
theorem Iy {l:List (Int × Int)} {k:Nat} (h:inB (vOf l k) (-1000000000) 1000000000=false):Fg l k=false:=by simp[Fg,h]
theorem My {l:List (Int × Int)} (h:inB (kOf l 0) 0 999=true) (h' :inB (vOf l 0) (-1000000000) 1000000000=true):Fg l 0=true:=by simp[Fg,h,h']
theorem MT {l:List (Int × Int)} {k:Nat} (h:inB (kOf l (k+1)) 0 999=true) (h' :inB (vOf l (k+1)) (-1000000000) 1000000000=true) (hlt:kOf l k<kOf l (k+1)):Fg l (k+1)=true:=by simp[Fg,h,h',hlt]
theorem H6 {l:List (Int × Int)} {k:Nat} (hlt:kOf l (k+1)<=kOf l k):Fg l (k+1)=false:=by
 have:¬kOf l k<kOf l (k+1):=by omega
 simp[Fg,this]

theorem CY (v:Value) (l:List (Int × Int)) (w:World) (h:Row w v l.length (Aq l)) :
  Calls Tryz.prog 45 #[v] w fun e w' =>e= .returned (.bool (Bd l))/\Below w.heap.size w w' :=by
 obtain⟨a,b,off,cap,rfl,hcap,hmax,ha,hk,hv⟩:=h.pairs
 unfold maxLen at hmax;go_enter Tryz.func45,Tryz.ntmps45
 go_wp2;go_loopw [3] (fun i wr=>∃k:Nat,k<=l.length/\i= .int .i64 k/\(∀i,i<k->Fg l i=true)/\Below w.heap.size w wr)
  (fun i _=>l.length-(intOf i).toNat)
 case atStart=>exact⟨0,Nat.zero_le _,rfl,fun i hi=>absurd hi (Nat.not_lt_zero _),Below.refl _ _⟩
 case round=>
  obtain⟨k,hkl,rfl,hall,hb⟩:=hrel
  have ALL:Hid (∀i,i<k->Fg l i=true):=hall
  clear hall;by_cases hlt:k<l.length
  ·have hal:=ha (by omega)
   subst hal;have d0:wr.cell? ⟨b,off+k*2,none⟩=some (.int .i64 (kOf l k)):=(hb.cell (by exact Aa (hk k hlt))).trans (hk k hlt)
   have d1:wr.cell? ⟨b,off+k*2+1,none⟩=some (.int .i64 (vOf l k)):=(hb.cell (by exact Aa (hv k hlt))).trans (hv k hlt)
   cases hK:inB (kOf l k) 0 999
   ·have NE:Hid (Bd l=false):=DH hlt (Iw hK)
    clear hk hv;go_wp2_with fail;go_quiet ((go_at_call 77;exact Calls.quiet_of_same (Cd _ _ _ _)))
    go_wp2;go_ret;exact⟨AM NE.out.symm,below_drewN hb _⟩
   ·cases hV:inB (vOf l k) (-1000000000) 1000000000
    ·have NE:Hid (Bd l=false):=DH hlt (Iy hV)
     clear hk hv;go_wp2_with fail;go_quiet (first|(go_at_call 77;exact Calls.quiet_of_same (Cd _ _ _ _))|(go_at_call 78;exact Calls.quiet_of_same (Fe _ _)))
     go_wp2;go_ret;exact⟨AM NE.out.symm,below_drewN hb _⟩
    ·cases k with
     |zero=>
      have OK:Hid (Fg l 0=true):=My hK hV
      simp only[Nat.zero_mul,Nat.add_zero] at d0 d1
      clear hk hv;go_wp2_with fail;go_quiet (first|(go_at_call 77;exact Calls.quiet_of_same (Cd _ _ _ _))|(go_at_call 78;exact Calls.quiet_of_same (Fe _ _)))
      go_wp2;go_roundw
      case rel=>exact⟨1,by omega,by go_num,fun i hi=>by rw[show i=0 by omega];exact OK.out,below_drewN hb _⟩
      case measure=>simp[intOf];omega
     |succ k=>
      have hpos:(0:Int)<((k+1:Nat):Int):=by omega
      have d2:wr.cell? ⟨b,off+k*2,none⟩=some (.int .i64 (kOf l k)):=(hb.cell (by exact Aa (hk k (by omega)))).trans (hk k (by omega))
      clear hk hv;by_cases hord:kOf l k<kOf l (k+1)
      ·have OK:Hid (Fg l (k+1)=true):=MT hK hV hord
       go_wp2_with fail;go_quiet (first|(go_at_call 77;exact Calls.quiet_of_same (Cd _ _ _ _))|(go_at_call 78;exact Calls.quiet_of_same (Fe _ _)))
       go_wp2;go_roundw
       case rel=>exact⟨k+1+1,by omega,by go_num,fun i hi=>if h:i<k+1 then ALL.out i h else by rw[show i=k+1 by omega];exact OK.out,below_drewN hb _⟩
       case measure=>simp[intOf];omega
      ·have NE:Hid (Bd l=false):=DH hlt (H6 (by omega))
       go_wp2_with fail;go_quiet (first|(go_at_call 77;exact Calls.quiet_of_same (Cd _ _ _ _))|(go_at_call 78;exact Calls.quiet_of_same (Fe _ _)))
       go_wp2;go_ret;exact⟨AM NE.out.symm,below_drewN hb _⟩
  ·go_wp2;go_ret;exact⟨AM (G0 (fun i hi=>ALL.out i (by omega))).symm,hb⟩

theorem Gg (v:Value) (l:List (Int × Int)) (w:World) (h:Row w v l.length (Aq l)) :
  Calls Tryz.prog 43 #[v] w fun e w' =>e= .returned (.bool (Bd l))/\Below w.heap.size w w' :=by
 obtain⟨a,b,off,cap,rfl,hcap,hmax,ha,hk,hv⟩:=h.pairs
 unfold maxLen at hmax;go_enter Tryz.func43,Tryz.ntmps43
 go_wp2;go_loopw [7] (fun i wr=>∃k:Nat,k<=l.length/\i= .int .i64 k/\(∀i,i<k->Fg l i=true)/\Below w.heap.size w wr)
  (fun i _=>l.length-(intOf i).toNat)
 case atStart=>exact⟨0,Nat.zero_le _,rfl,fun i hi=>absurd hi (Nat.not_lt_zero _),Below.refl _ _⟩
 case round=>
  obtain⟨k,hkl,rfl,hall,hb⟩:=hrel
  have ALL:Hid (∀i,i<k->Fg l i=true):=hall
  clear hall;by_cases hlt:k<l.length
  ·have hal:=ha (by omega)
   subst hal;have hbl:=Aa (hk k hlt)
   have d0:wr.cell? ⟨b,off+k*2,none⟩=some (.int .i64 (kOf l k)):=(hb.cell (by exact hbl)).trans (hk k hlt)
   have d1:wr.cell? ⟨b,off+k*2+1,none⟩=some (.int .i64 (vOf l k)):=(hb.cell (by exact hbl)).trans (hv k hlt)
   have hb' :∀o,Below w.heap.size w (wr.alloc o):=fun o=>hb.alloc hb.size o
   cases hK:inB (kOf l k) 0 999
   ·have NE:Hid (Bd l=false):=DH hlt (Iw hK)
    clear hk hv;go_wp2_with (go_at_call 58;refine(DE _ _).mono ?_;rintro e w' ⟨rfl,rfl⟩)
    go_ret;exact⟨AM NE.out.symm,hb' _⟩
   ·cases hV:inB (vOf l k) (-1000000000) 1000000000
    ·have NE:Hid (Bd l=false):=DH hlt (Iy hV)
     clear hk hv;go_wp2_with (first|(go_at_call 58;refine(DE _ _).mono ?_;rintro e w' ⟨rfl,rfl⟩)|(go_at_call 59;refine(Dg _ _).mono ?_;rintro e w' ⟨rfl,rfl⟩))
     go_ret;exact⟨AM NE.out.symm,hb' _⟩
    ·cases k with
     |zero=>
      have OK:Hid (Fg l 0=true):=My hK hV
      simp only[Nat.zero_mul,Nat.add_zero] at d0 d1
      clear hk hv;go_wp2_with (first|(go_at_call 58;refine(DE _ _).mono ?_;rintro e w' ⟨rfl,rfl⟩)|(go_at_call 59;refine(Dg _ _).mono ?_;rintro e w' ⟨rfl,rfl⟩))
      go_quiet (fail)
      go_wp2;go_roundw
      case rel=>exact⟨1,by omega,by go_num,fun i hi=>by rw[show i=0 by omega];exact OK.out,below_drewN (hb' _) _⟩
      case measure=>simp[intOf];omega
     |succ k=>
      have hpos:(0:Int)<((k+1:Nat):Int):=by omega
      have hwk:IntKind.i64.wrap (k:Int)=(k:Int):=by rw[IntKind.wrap_i64];omega
      have hkb:(k:Int)<(l.length:Int):=by omega
      have hbr:b<wr.heap.size:=Nat.lt_of_lt_of_le hbl hb.size
      have hbn:¬b=wr.heap.size:=by omega
      have d2:wr.cell? ⟨b,off+k*2,none⟩=some (.int .i64 (kOf l k)):=(hb.cell (by exact hbl)).trans (hk k (by omega))
      have d2' :∀o,(wr.alloc o).cell? ⟨b,off+k*2,none⟩=some (.int .i64 (kOf l k)):=fun o=>(((Below.refl _ _).alloc (Nat.le_refl _) o).cell (p:=⟨b,off+k*2,none⟩) hbr).trans d2
      clear hk hv;by_cases hord:kOf l k<kOf l (k+1)
      ·have OK:Hid (Fg l (k+1)=true):=MT hK hV hord
       go_wp2_with (first|(go_at_call 58;refine(DE _ _).mono ?_;rintro e w' ⟨rfl,rfl⟩)|(go_at_call 59;refine(Dg _ _).mono ?_;rintro e w' ⟨rfl,rfl⟩))
       go_quiet (fail)
       go_wp2;go_roundw
       case rel=>exact⟨k+1+1,by omega,by go_num,fun i hi=>if h:i<k+1 then ALL.out i h else by rw[show i=k+1 by omega];exact OK.out,below_drewN (hb' _) _⟩
       case measure=>simp[intOf];omega
      ·have NE:Hid (Bd l=false):=DH hlt (H6 (by omega))
       go_wp2_with (first|(go_at_call 58;refine(DE _ _).mono ?_;rintro e w' ⟨rfl,rfl⟩)|(go_at_call 59;refine(Dg _ _).mono ?_;rintro e w' ⟨rfl,rfl⟩))
       go_quiet (fail)
       go_wp2;go_ret;exact⟨AM NE.out.symm,below_drewN (hb' _) _⟩
  ·go_wp2;go_ret;exact⟨AM (G0 (fun i hi=>ALL.out i (by omega))).symm,hb⟩
end
end Go.Proofs.YtadmomgdacfgpaaGreat
