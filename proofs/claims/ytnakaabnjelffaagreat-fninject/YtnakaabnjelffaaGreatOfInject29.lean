/-
  The program's slices.Clone, of pairs, cuts, messages and kids.
  The copier's map: from where a list of kids stands to its copy.
  The copier's map, when something is laid into it.
  Kid by kid, each in its place: what it comes to; plain mathematics.
  The library's Max and Index over numbers; the program's busiest: the kid to which most messages belong.
  The contract of the program's busiest.
  The library's Grow and Concat, over trees and over numbers: any number of parts.
-/
import Derived.Test.YtnakaabnjelffaaGreatOfInject12
import Derived.Test.YtnakaabnjelffaaGreatOfInject13
import Derived.Test.YtnakaabnjelffaaGreatOfInject28
import Derived.Lib.BufferMore
import Derived.Laws.StructEq
import Derived.LaidEql
import Derived.MapKept
import Derived.Test.YtnakaabnjelffaaGreatOfInject9
import Derived.Test.YtnakaabnjelffaaGreatOfInject17
namespace Go.Proofs.YtnakaabnjelffaaGreat
set_option maxRecDepth 100000
set_option maxHeartbeats 8000000
section
open Go.RowKit

theorem OY (v:Value) (n:Nat) (xs:List Value) (w:World) (h:Row w v n xs) (hl:xs.length=n*2) (h1:∀y∈xs,y.oneCell' =true) (hn:n<=8388608) :
  Calls Tryz.prog 48 #[v] w fun e w' =>∃v',e= .returned v' ∧As w' w.heap.size 63 2 v' n xs/\Below w.heap.size w w' :=by
 obtain⟨a,q,hv,hq⟩:=h.len
 obtain⟨i0,hi0,hz0,hz1,hz2⟩:=info_parts Tryz.info63
 have HR:Hid _:=Gj (n:=n) (bytes:=16) hn (by decide)
 have RR:Hid (∀u,Below w.heap.size w u->Row u v n xs):=fun u hu=>h.below hu
 have HL:Hid (xs.length=n*2):=hl
 have H1:Hid _:=h1
 cases a with
 |none=>
  have hn0:n=0:=by
   obtain⟨a,b,o,c,h3,h4,h5,h6,h7,h8⟩:=h
   rw[hv] at h3
   injection h3 with e1 e2 e3
   have:=h8 e1.symm
   omega
  subst hn0;have hx:xs=[]:=List.length_eq_zero_iff.1 (by omega)
  subst hx hv;clear h hl h1 RR H1 HL;have hnil:∀W,(binOp .eql 24 (.slice none 0 q) (.slice none 0 0)).run Tryz.prog W= .ok (.bool true) W:=fun W=>Lib.run_eql_slice_nil_nil W _ _ Tryz.underlying24
  go_enter Tryz.func48,Tryz.ntmps48
  go_wp2;go_ret;exact⟨_,rfl,As.nil _ _ _ _,Below.refl _ _⟩
 |some p=>
  subst hv;clear h hl h1;have hnil:∀W,(binOp .eql 24 (.slice (some p) n q) (.slice none 0 0)).run Tryz.prog W= .ok (.bool false) W:=fun W=>Lib.run_eql_slice_some_nil W _ _ _ Tryz.underlying24
  go_enter Tryz.func48,Tryz.ntmps48
  go_wp2_with (at_builtin;refine Dj (w.alloc (.cells #[] 63)) rfl _ _ 24 rfl w.heap.size 63 i0 _ 2 16 Tryz.underlying24 hi0 hz0 hz1 hz2 rfl (by decide) (.slice (some ⟨w.heap.size,0,none⟩) 0 0) 0 [] rfl (As.zero _ _ _ _ _) (.slice (some p) n q) n xs rfl (RR.out _ (al1 _ _)) HL.out H1.out HR.out.1 HR.out.2 (by simp) ?_)
  rintro v' w2 ⟨o1,o2,o3,o4⟩
  have B2:Below w.heap.size w w2:=Below.trans (al1 _ _) o3
  clear o2 o3 o4;go_wp2;go_ret;exact⟨_,rfl,by simpa using o1,B2⟩

theorem Qh (v:Value) (n:Nat) (xs:List Value) (w:World) (h:Row w v n xs) (hl:xs.length=n*1) (h1:∀y∈xs,y.oneCell' =true) (hn:n<=8388608) :
  Calls Tryz.prog 49 #[v] w fun e w' =>∃v',e= .returned v' ∧As w' w.heap.size 3 1 v' n xs/\Below w.heap.size w w' :=by
 obtain⟨a,q,hv,hq⟩:=h.len
 obtain⟨i0,hi0,hz0,hz1,hz2⟩:=info_parts Tryz.info3
 have HR:Hid _:=Gj (n:=n) (bytes:=8) hn (by decide)
 have RR:Hid (∀u,Below w.heap.size w u->Row u v n xs):=fun u hu=>h.below hu
 have HL:Hid (xs.length=n*1):=hl
 have H1:Hid _:=h1
 cases a with
 |none=>
  have hn0:n=0:=by
   obtain⟨a,b,o,c,h3,h4,h5,h6,h7,h8⟩:=h
   rw[hv] at h3
   injection h3 with e1 e2 e3
   have:=h8 e1.symm
   omega
  subst hn0;have hx:xs=[]:=List.length_eq_zero_iff.1 (by omega)
  subst hx hv;clear h hl h1 RR H1 HL;have hnil:∀W,(binOp .eql 25 (.slice none 0 q) (.slice none 0 0)).run Tryz.prog W= .ok (.bool true) W:=fun W=>Lib.run_eql_slice_nil_nil W _ _ Tryz.underlying25
  go_enter Tryz.func49,Tryz.ntmps49
  go_wp2;go_ret;exact⟨_,rfl,As.nil _ _ _ _,Below.refl _ _⟩
 |some p=>
  subst hv;clear h hl h1;have hnil:∀W,(binOp .eql 25 (.slice (some p) n q) (.slice none 0 0)).run Tryz.prog W= .ok (.bool false) W:=fun W=>Lib.run_eql_slice_some_nil W _ _ _ Tryz.underlying25
  go_enter Tryz.func49,Tryz.ntmps49
  go_wp2_with (at_builtin;refine Dj (w.alloc (.cells #[] 3)) rfl _ _ 25 rfl w.heap.size 3 i0 _ 1 8 Tryz.underlying25 hi0 hz0 hz1 hz2 rfl (by decide) (.slice (some ⟨w.heap.size,0,none⟩) 0 0) 0 [] rfl (As.zero _ _ _ _ _) (.slice (some p) n q) n xs rfl (RR.out _ (al1 _ _)) HL.out H1.out HR.out.1 HR.out.2 (by simp) ?_)
  rintro v' w2 ⟨o1,o2,o3,o4⟩
  have B2:Below w.heap.size w w2:=Below.trans (al1 _ _) o3
  clear o2 o3 o4;go_wp2;go_ret;exact⟨_,rfl,by simpa using o1,B2⟩

theorem P5 (v:Value) (n:Nat) (xs:List Value) (w:World) (h:Row w v n xs) (hl:xs.length=n*3) (h1:∀y∈xs,y.oneCell' =true) (hn:n<=8388608) :
  Calls Tryz.prog 51 #[v] w fun e w' =>∃v',e= .returned v' ∧As w' w.heap.size 31 3 v' n xs/\Below w.heap.size w w' :=by
 obtain⟨a,q,hv,hq⟩:=h.len
 obtain⟨i0,hi0,hz0,hz1,hz2⟩:=info_parts Tryz.info31
 have HR:Hid _:=Gj (n:=n) (bytes:=24) hn (by decide)
 have RR:Hid (∀u,Below w.heap.size w u->Row u v n xs):=fun u hu=>h.below hu
 have HL:Hid (xs.length=n*3):=hl
 have H1:Hid _:=h1
 cases a with
 |none=>
  have hn0:n=0:=by
   obtain⟨a,b,o,c,h3,h4,h5,h6,h7,h8⟩:=h
   rw[hv] at h3
   injection h3 with e1 e2 e3
   have:=h8 e1.symm
   omega
  subst hn0;have hx:xs=[]:=List.length_eq_zero_iff.1 (by omega)
  subst hx hv;clear h hl h1 RR H1 HL;have hnil:∀W,(binOp .eql 27 (.slice none 0 q) (.slice none 0 0)).run Tryz.prog W= .ok (.bool true) W:=fun W=>Lib.run_eql_slice_nil_nil W _ _ Tryz.underlying27
  go_enter Tryz.func51,Tryz.ntmps51
  go_wp2;go_ret;exact⟨_,rfl,As.nil _ _ _ _,Below.refl _ _⟩
 |some p=>
  subst hv;clear h hl h1;have hnil:∀W,(binOp .eql 27 (.slice (some p) n q) (.slice none 0 0)).run Tryz.prog W= .ok (.bool false) W:=fun W=>Lib.run_eql_slice_some_nil W _ _ _ Tryz.underlying27
  go_enter Tryz.func51,Tryz.ntmps51
  go_wp2_with (at_builtin;refine Dj (w.alloc (.cells #[] 31)) rfl _ _ 27 rfl w.heap.size 31 i0 _ 3 24 Tryz.underlying27 hi0 hz0 hz1 hz2 rfl (by decide) (.slice (some ⟨w.heap.size,0,none⟩) 0 0) 0 [] rfl (As.zero _ _ _ _ _) (.slice (some p) n q) n xs rfl (RR.out _ (al1 _ _)) HL.out H1.out HR.out.1 HR.out.2 (by simp) ?_)
  rintro v' w2 ⟨o1,o2,o3,o4⟩
  have B2:Below w.heap.size w w2:=Below.trans (al1 _ _) o3
  clear o2 o3 o4;go_wp2;go_ret;exact⟨_,rfl,by simpa using o1,B2⟩

theorem JP (v:Value) (n:Nat) (xs:List Value) (w:World) (h:Row w v n xs) (hl:xs.length=n*5) (h1:∀y∈xs,y.oneCell' =true) (hn:n<=8388608) :
  Calls Tryz.prog 91 #[v] w fun e w' =>∃v',e= .returned v' ∧As w' w.heap.size 29 5 v' n xs/\Below w.heap.size w w' :=by
 obtain⟨a,q,hv,hq⟩:=h.len
 obtain⟨i0,hi0,hz0,hz1,hz2⟩:=info_parts Tryz.info29
 have HR:Hid _:=Gj (n:=n) (bytes:=104) hn (by decide)
 have RR:Hid (∀u,Below w.heap.size w u->Row u v n xs):=fun u hu=>h.below hu
 have HL:Hid (xs.length=n*5):=hl
 have H1:Hid _:=h1
 cases a with
 |none=>
  have hn0:n=0:=by
   obtain⟨a,b,o,c,h3,h4,h5,h6,h7,h8⟩:=h
   rw[hv] at h3
   injection h3 with e1 e2 e3
   have:=h8 e1.symm
   omega
  subst hn0;have hx:xs=[]:=List.length_eq_zero_iff.1 (by omega)
  subst hx hv;clear h hl h1 RR H1 HL;have hnil:∀W,(binOp .eql 26 (.slice none 0 q) (.slice none 0 0)).run Tryz.prog W= .ok (.bool true) W:=fun W=>Lib.run_eql_slice_nil_nil W _ _ Tryz.underlying26
  go_enter Tryz.func91,Tryz.ntmps91
  go_wp2;go_ret;exact⟨_,rfl,As.nil _ _ _ _,Below.refl _ _⟩
 |some p=>
  subst hv;clear h hl h1;have hnil:∀W,(binOp .eql 26 (.slice (some p) n q) (.slice none 0 0)).run Tryz.prog W= .ok (.bool false) W:=fun W=>Lib.run_eql_slice_some_nil W _ _ _ Tryz.underlying26
  go_enter Tryz.func91,Tryz.ntmps91
  go_wp2_with (at_builtin;refine Dj (w.alloc (.cells #[] 29)) rfl _ _ 26 rfl w.heap.size 29 i0 _ 5 104 Tryz.underlying26 hi0 hz0 hz1 hz2 rfl (by decide) (.slice (some ⟨w.heap.size,0,none⟩) 0 0) 0 [] rfl (As.zero _ _ _ _ _) (.slice (some p) n q) n xs rfl (RR.out _ (al1 _ _)) HL.out H1.out HR.out.1 HR.out.2 (by simp) ?_)
  rintro v' w2 ⟨o1,o2,o3,o4⟩
  have B2:Below w.heap.size w w2:=Below.trans (al1 _ _) o3
  clear o2 o3 o4;go_wp2;go_ret;exact⟨_,rfl,by simpa using o1,B2⟩
end
section
open Go.RowKit

def Hh (a:Addr) (n:Int):Value:= .agg #[.pointer (some a), .int .i64 n]

theorem Tn:∃f1 f2:Field,(Tryz.prog.fieldsOf 128).toList=[f1,f2]/\f1.name = "first" ∧ f1.type=83/\f1.offset=0/\f2.name = "count" ∧ f2.type=3/\f2.offset=1:=by
 have hF:(Tryz.prog.fieldsOf 128).toList.map (fun f=>(f.name,f.type,f.offset))=[("first",83,0),("count",3,1)]:=by kernel_rfl
 generalize (Tryz.prog.fieldsOf 128).toList=l at hF
 have hl:l.length=2:=by have:=congrArg List.length hF;simpa using this
 rcases l with _|⟨f1,_|⟨f2,_|⟨f3,l⟩⟩⟩<;>simp at hl
 simp at hF
 exact⟨f1,f2,rfl,hF.1.1,hF.1.2.1,hF.1.2.2,hF.2.1,hF.2.2.1,hF.2.2.2⟩

theorem YG (a b:Addr) (n m:Int) (w:World) (ha:Ek w a.block) (hb:Ek w b.block) :
  (Op.equalIn 10000 128 (Hh a n) (Hh b m)).run Tryz.prog w= .ok (a==b&&n==m) w:=by
 have u3:=Tryz.underlying3
 have hS:Tryz.prog.underlying 128=some (.struct (Tryz.prog.fieldsOf 128)):=by kernel_rfl
 have hp:Tryz.prog.stoodInHeld 128=false:=by kernel_rfl
 have P1:∀(a:Addr) (n:Int) w,(part 83 #[.pointer (some a), .int .i64 n] 0).run Tryz.prog w= .ok (.pointer (some a)) w:=fun a n w=>by kernel_rfl
 have P2:∀(a:Addr) (n:Int) w,(part 3 #[.pointer (some a), .int .i64 n] 1).run Tryz.prog w= .ok (.int .i64 n) w:=fun a n w=>by kernel_rfl
 have hu:Tryz.prog.underlying 83=some (.pointer 29):=by kernel_rfl
 obtain⟨i0,hi0,_,hz1,_⟩:=info_parts Tryz.info29
 have E0:∀d:Nat,(Op.equalIn (d+1) 83 (.pointer (some a)) (.pointer (some b))).run Tryz.prog w= .ok (a==b) w:=fun d=>by
  have hs:(sizeOf 29).run Tryz.prog w= .ok 5 w:=by simp[sizeOf,typeInfo,hi0,hz1,run_program]
  have h2:(sameAddr a b).run Tryz.prog w= .ok (a==b) w:=by
   by_cases e:a=b
   ·subst e;simpa using run_sameAddr_same (P:=Tryz.prog) (w:=w) a
   ·obtain⟨c1,t1,h1⟩:=ha
    obtain⟨c2,t2,h2⟩:=hb
    have:=run_sameAddr_other (P:=Tryz.prog) w e h1 h2
    rw[this]
    simp[e]
  simp[Op.equalIn,run_underlying hu,hs,h2]
 have E1:(Op.equalIn 9999 83 (.pointer (some a)) (.pointer (some b))).run Tryz.prog w= .ok (a==b) w:=E0 9998
 have E2:(Op.equalIn 9999 3 (.int .i64 n) (.int .i64 m)).run Tryz.prog w= .ok (n==m) w:=run_equalIn_int w 9998 3 .i64 .i64 n m u3
 unfold Hh;rw[show(10000:Nat)=9999+1 from rfl,run_equalIn_agg w 9999 128 _ _ hS hp]
 obtain⟨f1,f2,hF,q1,q2,q3,q4,q5,q6⟩:=Tn
 rw[hF]
 simp only[Op.eqFields,q1,q2,q3,q4,q5,q6,Sem.run_bind,Sem.run_ite,P1,P2,E1,E2,Result.andThen_ok]
 by_cases h1:a=b<;>by_cases h2:n=m<;>simp[h1,h2]

def Pb (w:World) (V:Nat->Prop) (es:List MapEntry):Prop:=∀e∈es,∃a n,e.key=Hh a n/\Ek w a.block/\V a.block

def Bz (w:World) (M:Nat) (V:Nat->Prop):Prop:=∃es clock,w.heap[M]? =some (.map es clock)/\Pb w V es.toList

theorem Oa {w:World} {V:Nat->Prop} (a:Addr) (n:Int) (ha:Ek w a.block):∀(es:List MapEntry) (i:Nat),Pb w V es->∃r,(∀w',w'.heap=w.heap->(Instr.findAsking 128 (Hh a n) es i).run Tryz.prog w' = .ok r w')/\∀j v,r=some (j,v)->V a.block/\i<=j/\∃e,es[j-i]? =some e/\e.key=Hh a n
 |[],i,_=>⟨none,fun _ _=>rfl,fun _ _ h=>by simp at h⟩
 |e::es,i,h=>by
  obtain⟨b,m,he,hb,hv⟩:=h e (by simp)
  obtain⟨r,hr,hq⟩:=Oa a n ha es (i+1) (fun x hx=>h x (by simp[hx]))
  have hE:∀w',w'.heap=w.heap->(Op.equal 128 (Hh a n) e.key).run Tryz.prog w' = .ok (a==b&&n==m) w' :=fun w' hw=>by rw[he];exact YG a b n m w' (by rw[Ek,hw];exact ha) (by rw[Ek,hw];exact hb)
  cases hc:(a==b&&n==m)
  ·refine⟨r, ?_,fun j v hj=> ?_⟩
   ·intro w' hw;simp[Instr.findAsking,hE w' hw,hc,hr w' hw]
   ·obtain⟨q1,q2,e',q3,q4⟩:=hq j v hj
    refine⟨q1,by omega,e', ?_,q4⟩
    rw[show j-i=(j-(i+1))+1 by omega]
    simpa using q3
  ·simp only[Bool.and_eq_true,beq_iff_eq] at hc
   obtain⟨rfl,rfl⟩:=hc
   refine⟨some (i,e.val), ?_,fun j v hj=> ?_⟩
   ·intro w' hw;simp[Instr.findAsking,hE w' hw]
   ·simp at hj
    obtain⟨rfl,rfl⟩:=hj
    exact⟨hv,Nat.le_refl _,e,by simp,he⟩

theorem JT {w:World} {V:Nat->Prop} (a:Addr) (n:Int) (ha:Ek w a.block) (es:List MapEntry) (h:Pb w V es):∃r,(∀w',w'.heap=w.heap->(Instr.findKey 128 (Hh a n) es).run Tryz.prog w' = .ok r w')/\∀j v,r=some (j,v)->V a.block/\∃e,es[j]? =some e/\e.key=Hh a n:=by
 have hS:Tryz.prog.underlying 128=some (.struct (Tryz.prog.fieldsOf 128)):=by kernel_rfl
 cases es with
 |nil=>exact⟨none,fun w' _=>by simp[Instr.findKey,run_underlying hS,Instr.findNow],fun _ _ h=>by simp at h⟩
 |cons e es=>
  obtain⟨r,hr,hq⟩:=Oa a n ha (e::es) 0 h
  refine⟨r, ?_,fun j v hj=> ?_⟩
  ·intro w' hw;simp[Instr.findKey,run_underlying hS,Instr.findNow,Instr.sameNow,hr w' hw]
  ·obtain⟨q1,_,e',q3,q4⟩:=hq j v hj
   exact⟨q1,e',by simpa using q3,q4⟩

theorem Io (b:Bool) (a:Addr) (n:Int) (w:World):(Instr.checkKey b 10000 128 (Hh a n)).run Tryz.prog w= .ok () w:=by kernel_rfl

theorem U3 {w:World} {M:Nat} {V:Nat->Prop} (hM:Bz w M V) (a:Addr) (n:Int) (ha:Ek w a.block):∃v met,(∀w',w'.heap=w.heap->(Instr.lookup 82 (.map (some M)) (Hh a n) true).run Tryz.prog w' = .ok (.tuple #[v, .bool met]) w')/\(met=true->V a.block):=by
 obtain⟨es,clock,hb,hk⟩:=hM
 have hu:Tryz.prog.underlying 82=some (.map 128 26):=by kernel_rfl
 have hz:∀w',(zeroValue 26).run Tryz.prog w' = .ok (.slice none 0 0) w' :=fun w' =>by kernel_rfl
 obtain⟨r,hr,hq⟩:=JT a n ha es.toList hk
 cases r with
 |none=>exact⟨.slice none 0 0,false,fun w' hw=>by simp[Instr.lookup,run_underlying hu,MapKept.run_getObj_map (w:=w') (by rw[hw];exact hb),Io,hr w' hw,hz],fun h=>by simp at h⟩
 |some r=>exact⟨r.2,true,fun w' hw=>by simp[Instr.lookup,run_underlying hu,MapKept.run_getObj_map (w:=w') (by rw[hw];exact hb),Io,hr w' hw],fun _=>(hq r.1 r.2 rfl).1⟩
end
section
open Go.RowKit

def setM (w:World) (M:Nat) (o:Obj):World:={ w with heap:=w.heap.setIfInBounds M o }

theorem FH (w:World) (M:Nat) (o:Obj):Chg (fun g=>g=M) w (setM w M o):=
 ⟨rfl,rfl,rfl,by simp[setM],fun k _ hk=>by simp[setM,Array.getElem?_setIfInBounds];intro e;exact absurd e.symm hk⟩

theorem Ek.chg {P:Nat->Prop} {w w' :World} {b:Nat} (h:Ek w b) (hc:Chg P w w') (hP:¬P b):Ek w' b:=by
 obtain⟨c,t,h⟩:=h
 exact⟨c,t,(hc.block b (Array.getElem?_eq_some_iff.1 h).1 hP).trans h⟩

theorem Yb (a:Addr) (n:Int):Instr.sameBits 10000 (Hh a n) (Hh a n)=true:=by
 show Instr.sameBits (9999+1) _ _=true
 unfold Hh;rw[Instr.sameBits]
 simp[Instr.sameBits]

theorem V5 {w:World} {M:Nat} {V:Nat->Prop} (hM:Bz w M V) (a:Addr) (n:Int) (x:Value) (ha:Ek w a.block):∃es' clock',(Instr.mapUpdate 82 (.map (some M)) (Hh a n) x).run Tryz.prog w= .ok () (setM w M (.map es' clock'))/\Bz (setM w M (.map es' clock')) M (fun g=>V g∨g=a.block):=by
 obtain⟨es,clock,hb,hk⟩:=hM
 have hu:Tryz.prog.underlying 82=some (.map 128 26):=by kernel_rfl
 obtain⟨r,hr,hq⟩:=JT a n ha es.toList hk
 have hMlt:M<w.heap.size:=(Array.getElem?_eq_some_iff.1 hb).1
 have hset:∀o:Obj,(setObj M o).run Tryz.prog w= .ok () (setM w M o):=fun o=>by simp[setObj,Sem.run,hb,setM]
 have hne:∀b,Ek w b->¬b=M:=fun b ⟨c,t,h⟩ e=>by subst e;rw[hb] at h;simp at h
 have hM2:∀o:Obj,(setM w M o).heap[M]? =some o:=fun o=>by simp[setM,hMlt]
 cases r with
 |none=>
  refine⟨es.push { key:=Hh a n,val:=x,born:=clock },clock+1, ?_,_,_,hM2 _,fun e he=> ?_⟩
  ·simp[Instr.mapUpdate,run_underlying hu,MapKept.run_getObj_map hb,Io,hr w rfl,hset]
  ·simp only[Array.toList_push,List.mem_append,List.mem_singleton] at he
   rcases he with he|rfl
   ·obtain⟨b,m,h1,h2,h3⟩:=hk e he
    exact⟨b,m,h1,h2.chg (FH _ _ _) (hne _ h2), .inl h3⟩
   ·exact⟨a,n,rfl,ha.chg (FH _ _ _) (hne _ ha), .inr rfl⟩
 |some r=>
  obtain⟨j,v⟩:=r
  obtain⟨hV,e0,h0,h1⟩:=hq j v rfl
  have hj:es[j]? =some e0:=by simpa using h0
  refine⟨es.modify j fun e=>{ e with key:=Hh a n,val:=x },clock, ?_,_,_,hM2 _,fun e he=> ?_⟩
  ·simp[Instr.mapUpdate,run_underlying hu,MapKept.run_getObj_map hb,Io,hr w rfl,hset,hj,h1,Instr.keyThatStays,Yb]
  ·obtain⟨i,hi,rfl⟩:=List.getElem_of_mem he
   simp only[Array.getElem_toList,Array.getElem_modify]
   split
   ·exact⟨a,n,rfl,ha.chg (FH _ _ _) (hne _ ha), .inr rfl⟩
   ·have hi' :i<es.size:=by simpa using hi
    obtain⟨b,m,k1,k2,k3⟩:=hk es[i] (by simp)
    exact⟨b,m,k1,k2.chg (FH _ _ _) (hne _ k2), .inl k3⟩

theorem Bz.chg {P:Nat->Prop} {w w' :World} {M:Nat} {V:Nat->Prop} (h:Bz w M V) (hc:Chg P w w') (hM:¬P M) (hV:∀g,P g->∀c t,w.heap[g]? =some (.cells c t (0,0))->∃c' t',w'.heap[g]? =some (.cells c' t' (0,0))):Bz w' M V:=by
 obtain⟨es,clock,hb,hk⟩:=h
 refine⟨es,clock,(hc.block M (Array.getElem?_eq_some_iff.1 hb).1 hM).trans hb,fun e he=> ?_⟩
 obtain⟨a,n,h1,⟨c,t,h2⟩,h3⟩:=hk e he
 refine⟨a,n,h1, ?_,h3⟩
 by_cases hp:P a.block
 ·exact hV _ hp c t h2
 ·exact⟨c,t,(hc.block _ (Array.getElem?_eq_some_iff.1 h2).1 hp).trans h2⟩
theorem Bz.step {w w' :World} {M:Nat} {V:Nat->Prop} (h:Bz w M V) (hb:Below w.heap.size w w'):Bz w' M V:=by
 obtain⟨es,clock,hb',hk⟩:=h
 refine⟨es,clock,(hb.block M (Array.getElem?_eq_some_iff.1 hb').1).trans hb',fun e he=> ?_⟩
 obtain⟨a,n,h1,⟨c,t,h2⟩,h3⟩:=hk e he
 exact⟨a,n,h1,⟨c,t,(hb.block _ (Array.getElem?_eq_some_iff.1 h2).1).trans h2⟩,h3⟩
end
section
def kbk (f:Nat->TM) (m:TM) (k:Nat):TM:=(AA f k++m.1.drop k,BF f m.2 k++m.2.drop (k-1))
theorem ME (f:Nat->TM) (m:TM):kbk f m 0=m:=by simp[kbk,AA,BF]
theorem MV {f:Nat->TM} {cs:List Int}:∀k,(∀i,i<k->(f i).2.length+1=(f i).1.length)->0<k->(BF f cs k).length+1=(AA f k).length
 |0,_,h=>by omega
 |k+1,hf,_=>by
  have h1:=hf k (by omega)
  rcases Nat.eq_zero_or_pos k with h0|h0
  ·subst h0;simp[BF,AA];exact h1
  ·have:=MV (f:=f) (cs:=cs) k (fun i hi=>hf i (by omega)) h0
   rw[BF,AA,if_pos h0]
   simp only[List.length_append,List.length_cons,List.length_nil]
   omega
theorem TJ {f:Nat->TM} {m:TM} (hm:m.2.length+1=m.1.length) {k:Nat} (hk:k<m.1.length) (hf:∀i,i<k->(f i).2.length+1=(f i).1.length):Bb (kbk f m k) (AA f k).length (f k)=kbk f m (k+1):=by
 have ht:(AA f k++m.1.drop k).take (AA f k).length=AA f k:=by rw[List.take_append_of_le_length (Nat.le_refl _),List.take_length]
 have hd:(AA f k++m.1.drop k).drop ((AA f k).length+1)=m.1.drop (k+1):=by
  rw[←List.drop_drop,List.drop_left,List.drop_drop]
 unfold Bb kbk;refine Prod.ext ?_ ?_
 ·show(AA f k++m.1.drop k).take (AA f k).length++(f k).1++(AA f k++m.1.drop k).drop ((AA f k).length+1)=AA f (k+1)++m.1.drop (k+1)
  rw[ht,hd,AA]
 ·show(BF f m.2 k++m.2.drop (k-1)).take (AA f k).length++(f k).2++(BF f m.2 k++m.2.drop (k-1)).drop (AA f k).length=BF f m.2 (k+1)++m.2.drop (k+1-1)
  rcases Nat.eq_zero_or_pos k with h0|h0
  ·subst h0;simp[BF,AA]
  ·have hl:=MV (f:=f) (cs:=m.2) k hf h0
   have hdr:m.2.drop (k-1)=iAt m.2 (k-1)::m.2.drop k:=by
    rw[List.drop_eq_getElem_cons (by omega),show k-1+1=k by omega]
    simp[iAt,List.getD,show k-1<m.2.length by omega]
   have t1:∀(A B:List Int) (x:Int),(A++x::B).take (A.length+1)=A++[x]:=fun A B x=>by
    rw[show A++x::B=(A++[x])++B by simp,show A.length+1=(A++[x]).length by simp,List.take_left]
   have t2:∀(A B:List Int) (x:Int),(A++x::B).drop (A.length+1)=B:=fun A B x=>by
    rw[show A++x::B=(A++[x])++B by simp,show A.length+1=(A++[x]).length by simp,List.drop_left]
   rw[hdr,show(AA f k).length=(BF f m.2 k).length+1 by omega,t1,t2,BF,if_pos h0,Nat.add_sub_cancel]
theorem TI {f:Nat->TM} {m:TM} (hm:m.2.length+1=m.1.length):kbk f m m.1.length=BE f m:=by
 unfold kbk BE;rw[List.drop_length,List.append_nil,List.drop_of_length_le (by omega),List.append_nil]
theorem Uh {f:Nat->TM} {m:TM} (hm:m.2.length+1=m.1.length):∀k,k<=m.1.length->(∀i,i<k->(f i).2.length+1=(f i).1.length)->(kbk f m k).2.length+1=(kbk f m k).1.length:=by
 intro k hk hf;rcases Nat.eq_zero_or_pos k with h0|h0
 ·subst h0;rw[ME];exact hm
 ·have:=MV (f:=f) (cs:=m.2) k hf h0
  simp only[kbk,List.length_append,List.length_drop]
  omega
end
section
open Go.RowKit

theorem VT (v:Value) (l:List Int) (w:World) (hr:Row w v l.length (Ab l)) (h0:0<l.length) (hb:∀i,i<l.length-> -9223372036854775808<=iAt l i/\iAt l i<=9223372036854775807) :
  Calls Tryz.prog 131 #[v] w fun e w' =>∃r:Int,e= .returned (.int .i64 r)/\(∀i,i<l.length->iAt l i<=r)/\(∃i,i<l.length/\iAt l i=r)/\w' =w:=by
 obtain⟨a,b,off,cap,rfl,hcap,hmax,ha,hk⟩:=hr.ints
 have hal:=ha h0
 subst hal;unfold maxLen at hmax;have HK:Hid _:=hk
 have d0:=hk 0 h0
 simp only[Nat.add_zero] at d0
 have HB:Hid _:=hb
 have hb0:=hb 0 h0
 have P0:Hid (∀i,i<1->iAt l i<=iAt l 0):=fun i hi=>by rw[show i=0 by omega];exact Int.le_refl _
 have E0:Hid (∃i,i<l.length/\iAt l i=iAt l 0):=⟨0,h0,rfl⟩
 clear hk hb;generalize hn:l.length=n at *
 clear hn;have hn1:¬((n:Int)<1):=by omega
 go_enter Tryz.func131,Tryz.ntmps131
 go_wp2;go_loopw [3,4] (fun s ix wr=>w=wr/\∃(k:Nat) (r:Int),s= .int .i64 r/\ix= .int .i64 k/\1<=k/\k<=n/\Hid (∀i,i<k->iAt l i<=r)/\Hid (∃i,i<n/\iAt l i=r))
  (fun _ ix _=>n-(intOf ix).toNat)
 case atStart=>exact⟨rfl,1,_,rfl,rfl,Nat.le_refl _,by omega,P0,E0⟩
 case round=>
  obtain⟨rfl,k,r,rfl,rfl,hk1,hkn,PR,ER⟩:=hrel
  by_cases hlt:k<n
  ·have dk:=HK.out k hlt
   have bk:=HB.out k hlt
   have PM:Hid (∀i,i<k+1->iAt l i<=max r (iAt l k)):=fun i hi=>by
    by_cases e:i=k
    ·rw[e];omega
    ·have:=PR.out i (by omega);omega
   have EM:Hid (∃i,i<n/\iAt l i=max r (iAt l k)):=by
    by_cases e:iAt l k<=r
    ·obtain⟨i,h1,h2⟩:=ER.out
     exact⟨i,h1,by rw[h2];omega⟩
    ·exact⟨k,hlt,by omega⟩
   generalize iAt l k=xk at *
   have hkn' :(k:Int)<(n:Int):=by omega
   have hk0:(0:Int)<=(k:Int):=by omega
   go_wp2;go_roundw
   case rel=>exact⟨trivial,k+1,max r xk,by first|rfl|go_num,by go_num,by omega,by omega,PM,EM⟩
   case measure=>simp[intOf];omega
  ·have hkn' :¬((k:Int)<(n:Int)):=by omega
   go_wp2;go_ret;exact⟨r,rfl,fun i hi=>PR.out i (by omega),ER.out,rfl⟩

theorem Tg (v:Value) (l:List Int) (x:Int) (i:Nat) (w:World) (hr:Row w v l.length (Ab l)) (hi:i<l.length) (h1:iAt l i=x) (h2:∀j,j<i->iAt l j≠x) :
  Calls Tryz.prog 130 #[v, .int .i64 x] w fun e w' =>e= .returned (.int .i64 (i:Nat))/\w' =w:=by
 obtain⟨a,b,off,cap,rfl,hcap,hmax,ha,hk⟩:=hr.ints
 have hal:=ha (by omega)
 subst hal;unfold maxLen at hmax;have HK:Hid _:=hk
 have H2:Hid _:=h2
 have H1:Hid _:=h1
 clear hk h1 h2;generalize hn:l.length=n at *
 clear hn;go_enter Tryz.func130,Tryz.ntmps130
 go_wp2;go_loopw [8] (fun ix wr=>w=wr/\∃k:Nat,ix= .int .i64 k/\k<=i) (fun ix _=>n-(intOf ix).toNat)
 case atStart=>exact⟨rfl,0,rfl,Nat.zero_le _⟩
 case round=>
  obtain⟨rfl,k,rfl,hki⟩:=hrel
  have dk:=HK.out k (by omega)
  have hkn' :(k:Int)<(n:Int):=by omega
  have hk0:(0:Int)<=(k:Int):=by omega
  by_cases e:k=i
  ·have e2:iAt l k=x:=by rw[e];exact H1.out
   rw[e2] at dk
   have E:Hid (k=i):=e
   clear e e2;go_wp2;go_ret;exact⟨by rw[E.out];rfl,rfl⟩
  ·have e2:=H2.out k (by omega)
   generalize iAt l k=xk at *
   have e3:(x==xk)=false:=by rw[beq_eq_false_iff_ne];exact fun h=>e2 h.symm
   go_wp2;go_roundw
   case rel=>exact⟨trivial,k+1,by go_num,by omega⟩
   case measure=>simp[intOf];omega

theorem P6 (cs:List Int) (b:ML):∀n j,j<(Ak cs b n).1->((Ar cs j b).length:Int)<(Ak cs b n).2:=by
 intro n;induction n with
 |zero=>intro j h;simp[Ak] at h
 |succ n ih=>
  intro j;rw[Ak]
  split
  ·rename_i h
   intro hj;have:=Ks cs b n j hj
   simp only
   omega
  ·exact ih j
end
section
open Go.RowKit

def EV (cs:List Int) (b:ML) (k:Nat):List Int:=(List.range (cs.length+1)).map fun i=>((Ar cs i (b.take k)).length:Int)
theorem GE (cs:List Int) (b:ML) (k:Nat):(EV cs b k).length=cs.length+1:=by simp[EV]
theorem Ju (cs:List Int) (b:ML) (k i:Nat) (h:i<cs.length+1):iAt (EV cs b k) i=((Ar cs i (b.take k)).length:Int):=by
 simp[EV,iAt,List.getD,h]
theorem UH (cs:List Int) (b:ML):EV cs b 0=List.replicate (cs.length+1) 0:=by
 rw[EV]
 refine List.ext_getElem (by simp) fun i h1 h2=> ?_
 simp[Ar]
theorem Vr (cs:List Int) (b:ML) (k:Nat) (h:k<b.length):EV cs b (k+1)=(EV cs b k).set (AN cs (mK b k)) (iAt (EV cs b k) (AN cs (mK b k))+1):=by
 have hp:=G9 cs (mK b k)
 refine List.ext_getElem (by simp[EV]) fun i h1 h2=> ?_
 have hi:i<cs.length+1:=by rw[GE] at h1;exact h1
 rw[List.getElem_set]
 have e1:(EV cs b (k+1))[i]=iAt (EV cs b (k+1)) i:=by simp[iAt,List.getD,h1]
 rw[e1,Ju _ _ _ _ hi,Lz cs i b k h]
 split
 ·rename_i hq
  rw[hq,Ju _ _ _ _ hi]
  simp
 ·rename_i hq
  have h3:i<(EV cs b k).length:=by rw[GE];exact hi
  have e2:(EV cs b k)[i]=iAt (EV cs b k) i:=by simp[iAt,List.getD,h3]
  rw[e2,Ju _ _ _ _ hi]

theorem Rn (vc vb:Value) (cs:List Int) (b:ML) (lo hi:Int) (w:World) (hc:Row w vc cs.length (Ab cs)) (hb:Row w vb b.length (Al b)) (hs:Hc lo hi cs) (hn:cs.length<=1048576) (hm:b.length<=2097152) :
  Calls Tryz.prog 118 #[vc,vb] w fun e w' =>e= .returned (.int .i64 ((Ak cs b (cs.length+1)).1:Nat))/\Below w.heap.size w w' :=by
 obtain⟨i0,hi0,hz0,hz1,hz2⟩:=info_parts Tryz.info3
 obtain⟨a2,q2,hv2,_⟩:=hc.len
 have KA:Hid (∀(x:Int) (w1:World),Below w.heap.size w w1->Calls Tryz.prog 106 #[vc, .int .i64 x] w1 fun e w' =>e= .returned (.int .i64 (AN cs x:Nat))/\Below w1.heap.size w1 w'):=fun x w1 hb' =>by
  have:=Kt vc cs x w1 (hc.below hb')
  rw[hs.cnt] at this
  exact this
 subst hv2;obtain⟨a,bb,off,cap,hvb,hcap,hmax,ha,c0,c1,c2⟩:=hb.msgs
 subst hvb;unfold maxLen at hmax;have MG:Hid (∀(k:Nat) (w1:World),Below w.heap.size w w1->k<b.length->w1.cell? ⟨bb,off+k*3,none⟩=some (.int .i64 (mO b k))/\w1.cell? ⟨bb,off+k*3+1,none⟩=some (.int .i64 (mK b k))/\w1.cell? ⟨bb,off+k*3+2,none⟩=some (.int .i64 (mV b k))):=fun k w1 hb' hk=>
  ⟨Ac hb' (Aa (c0 k hk)) (c0 k hk),Ac hb' (Aa (c1 k hk)) (c1 k hk),Ac hb' (Aa (c2 k hk)) (c2 k hk)⟩
 have CS:Hid (∀k,k<b.length->EV cs b (k+1)=(EV cs b k).set (AN cs (mK b k)) (iAt (EV cs b k) (AN cs (mK b k))+1)):=fun k=>Vr cs b k
 have CL:Hid (∀k,(EV cs b k).length=cs.length+1):=GE cs b
 have CA:Hid (∀k i,i<cs.length+1->0<=iAt (EV cs b k) i/\iAt (EV cs b k) i<=2097152):=fun k i h=>by
  rw[Ju _ _ _ _ h]
  have:=Cy cs i (b.take k)
  have:(b.take k).length<=b.length:=by rw[List.length_take];omega
  omega
 have CZ:Hid (EV cs b 0=List.replicate (cs.length+1) 0):=UH cs b
 have PL:Hid (∀x,AN cs x<=cs.length):=G9 cs
 have FIN:Hid (∀(v:Value) (w1:World),Row w1 v (cs.length+1) (Ab (EV cs b b.length))->Calls Tryz.prog 131 #[v] w1 fun e w' =>∃r:Int,e= .returned (.int .i64 r)/\(Calls Tryz.prog 130 #[v, .int .i64 r] w1 fun e w' =>e= .returned (.int .i64 ((Ak cs b (cs.length+1)).1:Nat))/\w' =w1)/\w' =w1):=fun v w1 hr=>by
  have hl:=GE cs b b.length
  rw[←hl] at hr
  refine(VT v _ w1 hr (by omega) (fun i h=>by have:=CA.out b.length i (by omega);omega)).mono ?_
  rintro e w' ⟨r,rfl,h1,⟨j,h2,h3⟩,rfl⟩
  refine⟨r,rfl, ?_,rfl⟩
  have hat:∀i,i<cs.length+1->iAt (EV cs b b.length) i=((Ar cs i b).length:Int):=fun i h=>by rw[Ju _ _ _ _ h,List.take_length]
  obtain⟨m1,m2⟩:=Dl cs b (cs.length+1) (by omega)
  have hr2:(Ak cs b (cs.length+1)).2=r:=by
   have g1:=h1 _ (by rw[hl];exact m1)
   rw[hat _ m1, ← m2] at g1
   have g2:=Ks cs b (cs.length+1) j (by omega)
   rw[←hat j (by omega),h3] at g2
   omega
  exact Tg v _ r (Ak cs b (cs.length+1)).1 w' hr (by omega) (by rw[hat _ m1, ← m2,hr2]) (fun i h e=>by
   rw[hat i (by omega)] at e
   have:=P6 cs b (cs.length+1) i h
   omega)
 clear hc hb hs c0 c1 c2;generalize (Ak cs b (cs.length+1)).1=R at *
 have CZ2:Hid (List.replicate (cs.length+1) (Value.int .i64 0)=Ab (EV cs b 0)):=by
  show _=_
  rw[CZ.out];simp[Ab]
 generalize cs.length=nc at *
 generalize hbl:b.length=nb at *
 clear hbl;have hw1:IntKind.i64.wrap ((nc:Int)+1)=(nc:Int)+1:=by rw[IntKind.wrap_i64];omega
 go_enter Tryz.func118,Tryz.ntmps118
 go_wp2_with (at_make;refine wpList_make_full _ rfl _ _ 25 rfl w.heap.size 3 i0 _ 1 Tryz.underlying25 hi0 hz0 hz1 .i64 .i64 _ _ (nc+1) rfl rfl rfl rfl ?c1 ?c2 ?c3 ?_)
 case c1=>rw[hz2];omega
 case c2=>unfold maxLen;omega
 case c3=>exact Nat.le_refl _
 intro w0 hown0 hgrow0;have hb0:Below w.heap.size w w0:=(Below.refl _ _).grown hgrow0 (Nat.le_refl _) (fun k hk=>by cases hk)
 have O0:Hid (w0.ownsRow w.heap.size 3 1 (.slice (some ⟨w.heap.size,0,none⟩) (nc+1) (nc+1)) (nc+1) (Ab (EV cs b 0))):=by
  rw[Nw _ (.int .i64 0) (by decide) (fun i hi=>by match i,hi with|0,_=>rfl)] at hown0
  rw[←CZ2.out]
  show World.ownsRow _ _ _ _ _ _ _
  simpa using hown0
 have B0:Hid _:=hb0
 clear hgrow0 hown0 hb0 CZ CZ2;go_wp2;go_loopw [14] (fun ix wr=>∃k:Nat,k<=nb/\ix= .int .i64 k/\Hid (wr.ownsRow w.heap.size 3 1 (.slice (some ⟨w.heap.size,0,none⟩) (nc+1) (nc+1)) (nc+1) (Ab (EV cs b k)))/\Hid (Below w.heap.size w wr))
  (fun ix _=>nb-(intOf ix).toNat)
 case atStart=>exact⟨0,Nat.zero_le _,rfl,O0,B0⟩
 case round=>
  obtain⟨k,hkl,rfl,OW,BW⟩:=hrel
  clear O0 B0;by_cases hlt:k<nb
  ·have hal:=ha (by omega)
   subst hal;obtain⟨d0,d1,d2⟩:=MG.out k wr BW.out hlt
   have KK:=KA.out (mK b k)
   have CS1:=CS.out k hlt
   have hp:=PL.out (mK b k)
   have hca:=CA.out k (AN cs (mK b k)) (by omega)
   generalize mO b k=x0 at *
   generalize mK b k=x1 at *
   generalize mV b k=x2 at *
   have KK2:Hid _:=KK
   have CS2:Hid _:=CS1
   clear KK CS1;generalize hpk:AN cs x1=pk at *
   clear hpk;have hk0:(0:Int)<=(k:Int):=by omega
   have hkn:(k:Int)<(nb:Int):=by omega
   have BA:Hid (Below w.heap.size w (wr.alloc (.cells #[.int .i64 x0, .int .i64 x1, .int .i64 x2] 31))):=BW.out.alloc BW.out.size _
   have OA:Hid _:=AJ OW.out (al1 wr (.cells #[.int .i64 x0, .int .i64 x1, .int .i64 x2] 31))
   clear OW BW;go_wp2_with fail;refine Calls.mono (KK2.out _ BA.out) ?_
   rintro e w1 ⟨rfl,b1⟩
   have O1:=AJ OA.out b1
   have B1:Hid (Below w.heap.size w w1):=Below.and BA.out b1
   have hat:=Mc (EV cs b k) pk (by rw[CL.out];omega)
   have e0:=(O1.cellAt pk (by omega)).trans hat
   have f0:=O1.frozenAt pk
   have st:=(O1.stored pk (.int .i64 (iAt (EV cs b k) pk+1))).1
   rw[UP, ← CS2.out] at st
   have ST:Hid _:=st
   generalize iAt (EV cs b k) pk=c0 at *
   have hp0:(0:Int)<=(pk:Int):=by omega
   have hpn:(pk:Int)<(nc:Int)+1:=by omega
   have hpn2:pk<nc+1:=by omega
   clear O1 hat st b1 d0 d1 d2;go_wp2;go_roundw
   case rel=>exact⟨k+1,by omega,by go_num,ST,B1.out.setCell (Nat.le_refl _) _⟩
   case measure=>simp[intOf];omega
  ·have hkk:k=nb:=by omega
   have hkn:¬((k:Int)<(nb:Int)):=by omega
   have FF:Hid _:=FIN.out _ wr (by have:=Row.of_owns OW.out;rw[hkk] at this;exact this)
   clear hkk;go_wp2_with fail;refine Calls.mono FF.out ?_
   rintro e w1 ⟨r,rfl,hI,rfl⟩
   have HI:Hid _:=hI
   clear hI;go_wp2_with fail;refine Calls.mono HI.out ?_
   rintro e w2 ⟨rfl,rfl⟩
   go_wp2;go_ret;exact⟨rfl,BW.out⟩
end
section
open Go.RowKit

open Go.Lib in
theorem Ur (n:Nat) (w:World) (hn:n<=8388608) :
  Calls Tryz.prog 133 #[.slice none 0 0, .int .i64 n] w fun e w' =>∃v',e= .returned v' ∧w'.ownsRow w.heap.size 3 1 v' 0 []/\Below w.heap.size w w' :=by
 obtain⟨i0,hi0,hz0,hz1,hz2⟩:=info_parts Tryz.info3
 rcases Nat.eq_zero_or_pos n with rfl|hp
 ·go_enter Tryz.func133,Tryz.ntmps133
  go_wp2;go_ret;exact⟨_,rfl,World.ownsRow_nil _ _ _ _,Below.refl _ _⟩
 ·have hrz:∀ty,(Builtin.append_ #[25,3] ty #[.slice none 0 0, .int .i64 (n:Int)]).run Tryz.prog w =
    .ok (.slice (some ⟨w.heap.size,0,none⟩) n (grownCap w n 0 3)) (w.drew.alloc (.cells (#[]++Builtin.zeroCells (Value.int .i64 0).cells n++Builtin.zeroCells (Value.int .i64 0).cells (grownCap w n 0 3-n)) 3)):=fun ty=>by
   have h:=Lib.run_append_grow_zeros w 25 3 ty 3 i0 _ .i64 .i64 Tryz.underlying25 Tryz.underlying3 hi0 hz0 none 0 0 [] (run_firstCells_none w.drew i0.size 0 0 0) n hp (by rw[hz1];decide) (by omega) (by omega)
    (by rw[hz2];omega)
    (by rw[Nat.zero_add,hz2];exact growslice_fits hp (by omega))
   rw[Nat.zero_add] at h
   exact h
  have HRZ:Hid _:=hrz
  have hGn:n<=grownCap w n 0 3:=grownCap_ge w _ _ _
  have hG63:=grownCap_le_maxLen w n 0 3 (by unfold maxLen;omega)
  generalize grownCap w n 0 3=G at *
  have hb1:(0:Int)<(n:Int):=by omega
  have hb2:¬((n:Int)<0):=by omega
  have hgm:G<=9223372036854775807:=by
   have:=hG63
   unfold maxLen at this;omega
  have OW:Hid ((w.alloc (.cells (Builtin.zeroCells #[.int .i64 0] n++Builtin.zeroCells #[.int .i64 0] (G-n)) 3)).drew.ownsRow w.heap.size 3 1 (.slice (some ⟨w.heap.size,0,none⟩) 0 G) 0 []):=
   ⟨by simp, .inr ⟨w.heap.size,G,_,rfl,Nat.le_refl _,heap_alloc_new w _,Nat.zero_le _,hG63,by
    simp only[Array.size_append,size_zeroCells]
    show n*1+(G-n)*1=G*1
    omega,by simp⟩⟩
  clear hrz hG63;go_enter Tryz.func133,Tryz.ntmps133
  go_wp2_with (at_builtin;refine Lib.wpList_append_run _ rfl _ _ _ _ rfl _ _ rfl rfl _ _ (HRZ.out _) ?_)
  all_goals
   go_ret;exact⟨_,rfl,OW.out,((Below.refl _ _).alloc (Nat.le_refl _) _).drew⟩

theorem QB (b off q:Nat) (P:List Pt) (w:World) (hq:P.length<=q) (hqm:q<=maxLen) (hp0:0<P.length) (hc:∀i,i<P.length->w.cell? ⟨b,off+i,none⟩=some (Ed P i).1) (hP:YV w 1 P) (hn:ptN P P.length<=2097152) :
  Calls Tryz.prog 126 #[.slice (some ⟨b,off,none⟩) P.length q] w fun e w' =>∃v',e= .returned v' ∧w'.ownsRow w.heap.size 3 1 v' (ptN P P.length) (ptC P P.length)/\Below w.heap.size w w' :=by
 obtain⟨i0,hi0,hz0,hz1,hz2⟩:=info_parts Tryz.info3
 have HC:Hid _:=hc
 have HP:Hid (∀i,i<P.length->Row w (Ed P i).1 (Ed P i).2.1 (Ed P i).2.2/\(Ed P i).2.2.length=(Ed P i).2.1*1/\∀y∈(Ed P i).2.2,y.oneCell' =true):=hP
 have NS:Hid (∀j,j<P.length->ptN P (j+1)=ptN P j+(Ed P j).2.1):=fun j=>LY P j
 have CS:Hid (∀j,j<P.length->ptC P (j+1)=ptC P j++(Ed P j).2.2):=fun j=>Rk P j
 have NL:Hid (∀j,j<=P.length->ptN P j<=2097152):=fun j hj=>Nat.le_trans (Qp P j _ hj) hn
 have N0:Hid (ptN P 0=0):=rfl
 have C0:Hid (ptC P 0=[]):=rfl
 unfold maxLen at hqm;clear hc hP;generalize hk:P.length=k at *
 clear hk;go_enter Tryz.func126,Tryz.ntmps126
 go_wp2;go_loopw [3,11] (fun sz i wr=>w=wr/\∃(j s:Nat),i= .int .i64 j/\sz= .int .i64 s/\j<=k/\s<=2097152/\Hid (s=ptN P j)) (fun _ i _=>k-(intOf i).toNat)
 case atStart=>exact⟨rfl,0,0,rfl,rfl,Nat.zero_le _,Nat.zero_le _,N0.out.symm⟩
 case round=>
  obtain⟨rfl,j,s,rfl,rfl,hjk,hs,HS⟩:=hrel
  by_cases hlt:j<k
  ·obtain⟨hr, -⟩:=HP.out j (by omega)
   obtain⟨aj,qj,ej,_⟩:=hr.len
   have cj:=HC.out j hlt
   rw[ej] at cj
   have e1:=NS.out j hlt
   have e2:=NL.out (j+1) (by omega)
   have e3:=HS.out
   generalize (Ed P j).2.1=m at *
   have hm:s+m<=2097152:=by omega
   have HS2:Hid (s+m=ptN P (j+1)):=by show _=_;omega
   have hp:¬((s:Int)+(m:Int)<0):=by omega
   clear e1 e2 e3 hr ej;go_wp2;go_roundw
   case rel=>exact⟨trivial,j+1,s+m,by go_num,by go_num,by omega,hm,HS2⟩
   case measure=>simp[intOf];omega
  ·have hjk' :j=k:=by omega
   have HS2:Hid (s=ptN P k):=by show _=_;rw[←hjk'];exact HS.out
   have GA:Hid (Calls Tryz.prog 133 #[.slice none 0 0, .int .i64 s] w fun e w' =>∃v',e= .returned v' ∧w'.ownsRow w.heap.size 3 1 v' 0 []/\Below w.heap.size w w'):=Ur s w (by omega)
   clear hjk' HS;go_wp2_with fail;refine Calls.mono GA.out ?_
   rintro e w2 ⟨v2,rfl,o2,hb2⟩
   obtain⟨a2,c2,hv2,_⟩:=(Row.of_owns o2).len
   subst hv2;have O2:Hid (w2.ownsRow w.heap.size 3 1 (.slice a2 0 c2) 0 []):=o2
   have B2:Hid (Below w.heap.size w w2):=hb2
   clear o2 hb2;go_wp2;go_loopw [6,27] (fun out i wr=>Hid (Below w.heap.size w wr)/\∃(j' m' c' :Nat) (a' :Option Addr),i= .int .i64 j' ∧j' <=k/\m' <=2097152/\out= .slice a' m' c' ∧Hid (m' =ptN P j')/\Hid (wr.ownsRow w.heap.size 3 1 (.slice a' m' c') m' (ptC P j'))) (fun _ i _=>k-(intOf i).toNat)
   case atStart=>exact⟨B2,0,0,c2,a2,rfl,Nat.zero_le _,Nat.zero_le _,rfl,N0.out.symm,by show World.ownsRow _ _ _ _ _ _ _;rw[C0.out];exact O2.out⟩
   case round=>
    obtain⟨BQ,j',m',c',a',rfl,hjk2,hm',rfl,HM,OQ⟩:=hrel
    clear O2 B2;by_cases hlt2:j' < k
    ·obtain⟨hr,hl,h1⟩:=HP.out j' (by omega)
     obtain⟨aj,qj,ej,_⟩:=hr.len
     have cj:=HC.out j' hlt2
     have e1:=NS.out j' hlt2
     have e2:=NL.out (j' +1) (by omega)
     have e3:=HM.out
     have e4:=CS.out j' hlt2
     rw[ej] at cj hr
     have d0:=Ac BQ.out (Aa cj) cj
     generalize (Ed P j').2.1=m at *
     generalize (Ed P j').2.2=X at *
     have HR:Hid (m' +m<=maxLen/\(m' +m)*8<=140737488355328):=⟨by unfold maxLen;omega,by omega⟩
     have RR:Hid _:=hr.below BQ.out
     have H1:Hid _:=h1
     have HL:Hid _:=hl
     have hm2:m' +m<=2097152:=by omega
     have HM2:Hid (m' +m=ptN P (j' +1)):=by show _=_;omega
     have E4:Hid _:=e4
     have hbs:w.heap.size<=wr.heap.size:=BQ.out.size
     clear e1 e2 e3 e4 hr hl h1 ej cj;go_wp2_with (at_builtin;refine F7 wr rfl _ _ 25 rfl w.heap.size 3 i0 _ 1 8 Tryz.underlying25 hi0 hz0 hz1 hz2 rfl (by decide) (.slice a' m' c') m' _ rfl OQ.out (.slice aj m qj) m X rfl RR.out HL.out H1.out HR.out.1 HR.out.2 hbs ?_)
     intro v5 w5 o5 _ b5;obtain⟨a5,c5,hv5,_⟩:=(Row.of_owns o5).len
     subst hv5;have FIN:Hid (w5.ownsRow w.heap.size 3 1 (.slice a5 (m' +m) c5) (m' +m) (ptC P (j' +1))/\Below w.heap.size w w5):=⟨by rw[E4.out];exact o5,BQ.out.trans b5⟩
     clear o5 b5 d0;go_wp2;go_roundw
     case rel=>exact⟨FIN.out.2,j' +1,m' +m,c5,a5,by go_num,by omega,hm2,rfl,HM2,FIN.out.1⟩
     case measure=>simp[intOf];omega
    ·have hjk' :j' =k:=by omega
     have FIN:Hid (wr.ownsRow w.heap.size 3 1 (.slice a' m' c') (ptN P k) (ptC P k)):=by
      have h1:=OQ.out
      have h2:=HM.out
      rw[hjk'] at h1 h2
      rw[h2] at h1 ⊢
      exact h1
     clear hjk';go_wp2;go_ret;exact⟨_,rfl,FIN.out,BQ.out⟩
end
end Go.Proofs.YtnakaabnjelffaaGreat
