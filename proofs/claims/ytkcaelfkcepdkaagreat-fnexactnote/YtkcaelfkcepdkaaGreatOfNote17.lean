/-
  The copier's map: from where a list of kids stands to its copy.
  The copier's map, when something is laid into it.
  Kid by kid, each in its place: what it comes to; plain mathematics.
  What shrunk messages do, key by key; plain mathematics.
  Trees side by side: each is right in its place, and tells of each key of its place what it should; plain mathematics.
  Leaves, parents and what is given down, as trees side by side; plain mathematics.
  The library's Max and Index over numbers; the program's busiest: the kid to which most messages belong.
  The contract of the program's busiest.
  The library's Grow and Concat, over trees and over numbers: any number of parts.
  The program's rows of trees: rowOf, kidsOf.
  The program's inPlaceOf: what came of a kid stands where it stood.
  The program's inTwos: parts of two each, three in the last one where there is one left.
  A row of trees that is being put together out of parts, in the program's boxes.
  The program's forksOf: one tree over the kids, or several of two each where they are too many for one.
  The program's leavesOf: one leaf, or several of two pairs each where they are too many for one.
  The contract of the model's l4Most.
  The contract of the model's l4Down, by that of l4Give.
  The model's drawing of numbers off the bytes of a code: what a cursor is, and that every draw returns.
  The model's drawing of keys, messages and maps: every draw returns, in memory of its own.
  The model's drawing of messages.
  Regions that draw their order and whose callees make memory of their own but write into none that was there: one walk in the text's order, over the class of all later worlds.
  Contracts of the model's Shrink and of what it asks.
  The contract of the model's Shrink.
  The contract of the model's l4Give, at a leaf.
  The contract of the model's l4Give, at a fork.
  l4Give at all depths; the contract of the model's l4Root.
  The program's rootOver: one tree of what came.
  The contract of the program's giveBusiest.
  The program's kidByKid, for the two functions that are handed to it.
  The program's giveDown: all messages given down, kid by kid.
  The contract of the program's giveDown.
  A scope with several labels: what holds at a jump to each, and a measure that every pass from a label lowers.
  The rounds in which messages come down; plain mathematics. A scope with two labels.
  What the copier's own state is, and the sums it keeps.
-/
import Derived.Test.YtkcaelfkcepdkaaGreatOfNote16
import Derived.Laws.StructEq
import Derived.LaidEql
import Derived.MapKept
import Derived.Test.YtkcaelfkcepdkaaGreatOfNote7
import Derived.Test.YtkcaelfkcepdkaaGreatOfNote13
import Derived.Deep.RegionHeld3
import Derived.Deep.QuietTactic
import Derived.BigQuiet
import Derived.Deep.RegionWith
import Derived.Test.YtkcaelfkcepdkaaGreatOfNote2
import Derived.Test.YtkcaelfkcepdkaaGreatOfNote1
import Derived.Deep.LoopGhost
import Derived.WalkMore
import Derived.ScopeJumps
import Derived.Scope
import Derived.Test.YtkcaelfkcepdkaaGreatOfNote15
namespace Go.Proofs.YtkcaelfkcepdkaaGreat
set_option maxRecDepth 100000
set_option maxHeartbeats 8000000
section
open Go.RowKit

def ET (a:Addr) (n:Int):Value:= .agg #[.pointer (some a), .int .i64 n]

theorem Nc:∃f1 f2:Field,(Tryz.prog.fieldsOf 204).toList=[f1,f2]/\f1.name = "first" ∧ f1.type=194/\f1.offset=0/\f2.name = "count" ∧ f2.type=3/\f2.offset=1:=by
 have hF:(Tryz.prog.fieldsOf 204).toList.map (fun f=>(f.name,f.type,f.offset))=[("first",194,0),("count",3,1)]:=by kernel_rfl
 generalize (Tryz.prog.fieldsOf 204).toList=l at hF
 have hl:l.length=2:=by have:=congrArg List.length hF;simpa using this
 rcases l with _|⟨f1,_|⟨f2,_|⟨f3,l⟩⟩⟩<;>simp at hl
 simp at hF
 exact⟨f1,f2,rfl,hF.1.1,hF.1.2.1,hF.1.2.2,hF.2.1,hF.2.2.1,hF.2.2.2⟩

theorem Ub (a b:Addr) (n m:Int) (w:World) (ha:CM w a.block) (hb:CM w b.block) :
  (Op.equalIn 10000 204 (ET a n) (ET b m)).run Tryz.prog w= .ok (a==b&&n==m) w:=by
 have u3:=Tryz.underlying3
 have hS:Tryz.prog.underlying 204=some (.struct (Tryz.prog.fieldsOf 204)):=by kernel_rfl
 have hp:Tryz.prog.stoodInHeld 204=false:=by kernel_rfl
 have P1:∀(a:Addr) (n:Int) w,(part 194 #[.pointer (some a), .int .i64 n] 0).run Tryz.prog w= .ok (.pointer (some a)) w:=fun a n w=>by kernel_rfl
 have P2:∀(a:Addr) (n:Int) w,(part 3 #[.pointer (some a), .int .i64 n] 1).run Tryz.prog w= .ok (.int .i64 n) w:=fun a n w=>by kernel_rfl
 have hu:Tryz.prog.underlying 194=some (.pointer 69):=by kernel_rfl
 obtain⟨i0,hi0,_,hz1,_⟩:=info_parts Tryz.info69
 have E0:∀d:Nat,(Op.equalIn (d+1) 194 (.pointer (some a)) (.pointer (some b))).run Tryz.prog w= .ok (a==b) w:=fun d=>by
  have hs:(sizeOf 69).run Tryz.prog w= .ok 5 w:=by simp[sizeOf,typeInfo,hi0,hz1,run_program]
  have h2:(sameAddr a b).run Tryz.prog w= .ok (a==b) w:=by
   by_cases e:a=b
   ·subst e;simpa using run_sameAddr_same (P:=Tryz.prog) (w:=w) a
   ·obtain⟨c1,t1,h1⟩:=ha
    obtain⟨c2,t2,h2⟩:=hb
    have:=run_sameAddr_other (P:=Tryz.prog) w e h1 h2
    rw[this]
    simp[e]
  simp[Op.equalIn,run_underlying hu,hs,h2]
 have E1:(Op.equalIn 9999 194 (.pointer (some a)) (.pointer (some b))).run Tryz.prog w= .ok (a==b) w:=E0 9998
 have E2:(Op.equalIn 9999 3 (.int .i64 n) (.int .i64 m)).run Tryz.prog w= .ok (n==m) w:=run_equalIn_int w 9998 3 .i64 .i64 n m u3
 unfold ET;rw[show(10000:Nat)=9999+1 from rfl,run_equalIn_agg w 9999 204 _ _ hS hp]
 obtain⟨f1,f2,hF,q1,q2,q3,q4,q5,q6⟩:=Nc
 rw[hF]
 simp only[Op.eqFields,q1,q2,q3,q4,q5,q6,Sem.run_bind,Sem.run_ite,P1,P2,E1,E2,Result.andThen_ok]
 by_cases h1:a=b<;>by_cases h2:n=m<;>simp[h1,h2]

def Kq (w:World) (V:Nat->Prop) (es:List MapEntry):Prop:=∀e∈es,∃a n,e.key=ET a n/\CM w a.block/\V a.block

def Bg (w:World) (M:Nat) (V:Nat->Prop):Prop:=∃es clock,w.heap[M]? =some (.map es clock)/\Kq w V es.toList

theorem JV {w:World} {V:Nat->Prop} (a:Addr) (n:Int) (ha:CM w a.block):∀(es:List MapEntry) (i:Nat),Kq w V es->∃r,(∀w',w'.heap=w.heap->(Instr.findAsking 204 (ET a n) es i).run Tryz.prog w' = .ok r w')/\∀j v,r=some (j,v)->V a.block/\i<=j/\∃e,es[j-i]? =some e/\e.key=ET a n
 |[],i,_=>⟨none,fun _ _=>rfl,fun _ _ h=>by simp at h⟩
 |e::es,i,h=>by
  obtain⟨b,m,he,hb,hv⟩:=h e (by simp)
  obtain⟨r,hr,hq⟩:=JV a n ha es (i+1) (fun x hx=>h x (by simp[hx]))
  have hE:∀w',w'.heap=w.heap->(Op.equal 204 (ET a n) e.key).run Tryz.prog w' = .ok (a==b&&n==m) w' :=fun w' hw=>by rw[he];exact Ub a b n m w' (by rw[CM,hw];exact ha) (by rw[CM,hw];exact hb)
  cases hc:(a==b&&n==m)
  ·refine⟨r, ?_,fun j v hj=> ?_⟩
   ·intro w' hw;simp[Instr.findAsking,hE w' hw,hc,hr w' hw]
   ·obtain⟨q1,q2,e',q3,q4⟩:=hq j v hj
    refine⟨q1,by omega,e', ?_,q4⟩
    rw[show j-i=(j-(i+1))+1 by omega]
    simpa using q3
  ·simp only[Bool.and_eq_true,beq_iff_eq] at hc
   obtain⟨rfl,rfl⟩:=hc
   refine⟨some (i,e.val), ?_,fun j v hj=> ?_⟩
   ·intro w' hw;simp[Instr.findAsking,hE w' hw]
   ·simp at hj
    obtain⟨rfl,rfl⟩:=hj
    exact⟨hv,Nat.le_refl _,e,by simp,he⟩

theorem Hl {w:World} {V:Nat->Prop} (a:Addr) (n:Int) (ha:CM w a.block) (es:List MapEntry) (h:Kq w V es):∃r,(∀w',w'.heap=w.heap->(Instr.findKey 204 (ET a n) es).run Tryz.prog w' = .ok r w')/\∀j v,r=some (j,v)->V a.block/\∃e,es[j]? =some e/\e.key=ET a n:=by
 have hS:Tryz.prog.underlying 204=some (.struct (Tryz.prog.fieldsOf 204)):=by kernel_rfl
 cases es with
 |nil=>exact⟨none,fun w' _=>by simp[Instr.findKey,run_underlying hS,Instr.findNow],fun _ _ h=>by simp at h⟩
 |cons e es=>
  obtain⟨r,hr,hq⟩:=JV a n ha (e::es) 0 h
  refine⟨r, ?_,fun j v hj=> ?_⟩
  ·intro w' hw;simp[Instr.findKey,run_underlying hS,Instr.findNow,Instr.sameNow,hr w' hw]
  ·obtain⟨q1,_,e',q3,q4⟩:=hq j v hj
   exact⟨q1,e',by simpa using q3,q4⟩

theorem Fy (b:Bool) (a:Addr) (n:Int) (w:World):(Instr.checkKey b 10000 204 (ET a n)).run Tryz.prog w= .ok () w:=by kernel_rfl

theorem OL {w:World} {M:Nat} {V:Nat->Prop} (hM:Bg w M V) (a:Addr) (n:Int) (ha:CM w a.block):∃v met,(∀w',w'.heap=w.heap->(Instr.lookup 193 (.map (some M)) (ET a n) true).run Tryz.prog w' = .ok (.tuple #[v, .bool met]) w')/\(met=true->V a.block):=by
 obtain⟨es,clock,hb,hk⟩:=hM
 have hu:Tryz.prog.underlying 193=some (.map 204 66):=by kernel_rfl
 have hz:∀w',(zeroValue 66).run Tryz.prog w' = .ok (.slice none 0 0) w' :=fun w' =>by kernel_rfl
 obtain⟨r,hr,hq⟩:=Hl a n ha es.toList hk
 cases r with
 |none=>exact⟨.slice none 0 0,false,fun w' hw=>by simp[Instr.lookup,run_underlying hu,MapKept.run_getObj_map (w:=w') (by rw[hw];exact hb),Fy,hr w' hw,hz],fun h=>by simp at h⟩
 |some r=>exact⟨r.2,true,fun w' hw=>by simp[Instr.lookup,run_underlying hu,MapKept.run_getObj_map (w:=w') (by rw[hw];exact hb),Fy,hr w' hw],fun _=>(hq r.1 r.2 rfl).1⟩
end
section
open Go.RowKit

def Gv (w:World) (M:Nat) (o:Obj):World:={ w with heap:=w.heap.setIfInBounds M o }

theorem DH (w:World) (M:Nat) (o:Obj):Chg (fun g=>g=M) w (Gv w M o):=
 ⟨rfl,rfl,rfl,by simp[Gv],fun k _ hk=>by simp[Gv,Array.getElem?_setIfInBounds];intro e;exact absurd e.symm hk⟩

theorem CM.chg {P:Nat->Prop} {w w' :World} {b:Nat} (h:CM w b) (hc:Chg P w w') (hP:¬P b):CM w' b:=by
 obtain⟨c,t,h⟩:=h
 exact⟨c,t,(hc.block b (Array.getElem?_eq_some_iff.1 h).1 hP).trans h⟩

theorem Ra (a:Addr) (n:Int):Instr.sameBits 10000 (ET a n) (ET a n)=true:=by
 show Instr.sameBits (9999+1) _ _=true
 unfold ET;rw[Instr.sameBits]
 simp[Instr.sameBits]

theorem QD {w:World} {M:Nat} {V:Nat->Prop} (hM:Bg w M V) (a:Addr) (n:Int) (x:Value) (ha:CM w a.block):∃es' clock',(Instr.mapUpdate 193 (.map (some M)) (ET a n) x).run Tryz.prog w= .ok () (Gv w M (.map es' clock'))/\Bg (Gv w M (.map es' clock')) M (fun g=>V g∨g=a.block):=by
 obtain⟨es,clock,hb,hk⟩:=hM
 have hu:Tryz.prog.underlying 193=some (.map 204 66):=by kernel_rfl
 obtain⟨r,hr,hq⟩:=Hl a n ha es.toList hk
 have hMlt:M<w.heap.size:=(Array.getElem?_eq_some_iff.1 hb).1
 have hset:∀o:Obj,(setObj M o).run Tryz.prog w= .ok () (Gv w M o):=fun o=>by simp[setObj,Sem.run,hb,Gv]
 have hne:∀b,CM w b->¬b=M:=fun b ⟨c,t,h⟩ e=>by subst e;rw[hb] at h;simp at h
 have hM2:∀o:Obj,(Gv w M o).heap[M]? =some o:=fun o=>by simp[Gv,hMlt]
 cases r with
 |none=>
  refine⟨es.push { key:=ET a n,val:=x,born:=clock },clock+1, ?_,_,_,hM2 _,fun e he=> ?_⟩
  ·simp[Instr.mapUpdate,run_underlying hu,MapKept.run_getObj_map hb,Fy,hr w rfl,hset]
  ·simp only[Array.toList_push,List.mem_append,List.mem_singleton] at he
   rcases he with he|rfl
   ·obtain⟨b,m,h1,h2,h3⟩:=hk e he
    exact⟨b,m,h1,h2.chg (DH _ _ _) (hne _ h2), .inl h3⟩
   ·exact⟨a,n,rfl,ha.chg (DH _ _ _) (hne _ ha), .inr rfl⟩
 |some r=>
  obtain⟨j,v⟩:=r
  obtain⟨hV,e0,h0,h1⟩:=hq j v rfl
  have hj:es[j]? =some e0:=by simpa using h0
  refine⟨es.modify j fun e=>{ e with key:=ET a n,val:=x },clock, ?_,_,_,hM2 _,fun e he=> ?_⟩
  ·simp[Instr.mapUpdate,run_underlying hu,MapKept.run_getObj_map hb,Fy,hr w rfl,hset,hj,h1,Instr.keyThatStays,Ra]
  ·obtain⟨i,hi,rfl⟩:=List.getElem_of_mem he
   simp only[Array.getElem_toList,Array.getElem_modify]
   split
   ·exact⟨a,n,rfl,ha.chg (DH _ _ _) (hne _ ha), .inr rfl⟩
   ·have hi' :i<es.size:=by simpa using hi
    obtain⟨b,m,k1,k2,k3⟩:=hk es[i] (by simp)
    exact⟨b,m,k1,k2.chg (DH _ _ _) (hne _ k2), .inl k3⟩

theorem Bg.chg {P:Nat->Prop} {w w' :World} {M:Nat} {V:Nat->Prop} (h:Bg w M V) (hc:Chg P w w') (hM:¬P M) (hV:∀g,P g->∀c t,w.heap[g]? =some (.cells c t (0,0))->∃c' t',w'.heap[g]? =some (.cells c' t' (0,0))):Bg w' M V:=by
 obtain⟨es,clock,hb,hk⟩:=h
 refine⟨es,clock,(hc.block M (Array.getElem?_eq_some_iff.1 hb).1 hM).trans hb,fun e he=> ?_⟩
 obtain⟨a,n,h1,⟨c,t,h2⟩,h3⟩:=hk e he
 refine⟨a,n,h1, ?_,h3⟩
 by_cases hp:P a.block
 ·exact hV _ hp c t h2
 ·exact⟨c,t,(hc.block _ (Array.getElem?_eq_some_iff.1 h2).1 hp).trans h2⟩
theorem Bg.step {w w' :World} {M:Nat} {V:Nat->Prop} (h:Bg w M V) (hb:Below w.heap.size w w'):Bg w' M V:=by
 obtain⟨es,clock,hb',hk⟩:=h
 refine⟨es,clock,(hb.block M (Array.getElem?_eq_some_iff.1 hb').1).trans hb',fun e he=> ?_⟩
 obtain⟨a,n,h1,⟨c,t,h2⟩,h3⟩:=hk e he
 exact⟨a,n,h1,⟨c,t,(hb.block _ (Array.getElem?_eq_some_iff.1 h2).1).trans h2⟩,h3⟩
end
section
def kbk (f:Nat->TM) (m:TM) (k:Nat):TM:=(Ol f k++m.1.drop k,Oj f m.2 k++m.2.drop (k-1))
end
section
def U5 (k:Int) (s:Int × Bool) (m:Int × Int × Int):Int × Bool:=
 if m.2.1=k then (if m.1=1 then (m.2.2,true) else if m.1=2 then (0,false) else if m.1=3 then (I1 (s.1+m.2.2),true) else s) else s
def U7 (A:ML):Prop:=A.Pairwise fun a b=>a.2.1=b.2.1->a.1≠1/\R8 b=false
end
section
def Rt (d:Nat) (f:Int->Int × Bool) (lo hi:Int) (t:Tr):Prop:=IG d t lo hi=d/\∀k,lo<=k->k<hi->TS d t k=f k
def Seg (d:Nat) (f:Int->Int × Bool):Int->Int->List Int->List Tr->Prop
 |lo,hi,[],[t]=>Rt d f lo hi t
 |lo,hi,c::cs,t::ts=>Rt d f lo c t/\lo<c/\c<hi/\Seg d f c hi cs ts
 |_,_,_,_=>False
def UL (lo hi:Int) (ms:ML):Prop:=∀m∈ms,okN m/\lo<=m.2.1/\m.2.1<hi
def Vi (lo hi:Int) (cs:List Int):Prop:=∀i,i<cs.length->frC cs lo i<iAt cs i/\iAt cs i<hi

variable {d:Nat} {f g h:Int->Int × Bool}
end
section
variable {d:Nat} {f g h:Int->Int × Bool}

def loF (ps:PL) (lo:Int) (i:Nat):Int:=if i=0 then lo else kOf ps i
def UV (d:Nat) (g:Tr->ML->TM):Prop:=∀T ms lo hi,IG d T lo hi=d->UL lo hi ms->Seg d (fun k=>Uc (TS d T k) (ofK ms k)) lo hi (g T ms).2 (g T ms).1
end
section
open Go.RowKit
end
section
open Go.RowKit

def Vc (cs:List Int) (b:ML) (k:Nat):List Int:=(List.range (cs.length+1)).map fun i=>((Io cs i (b.take k)).length:Int)
end
section
open Go.RowKit
end
section
open Go.RowKit

abbrev Vh:Nat->Prop:=fun _=>True
end
section
open Go.RowKit

abbrev Va (u:World) (L:Nat) (x y:Value):World:=(u.setCell ⟨L,0,none⟩ x).setCell ⟨L,1,none⟩ y
theorem TL {u u' :World} {b:Nat} {o:Obj} (hb:Below u.heap.size u u') (h:u.heap[b]? =some o):u'.heap[b]? =some o:=(hb.block b (Array.getElem?_eq_some_iff.1 h).1).trans h
theorem Rg {u:World} {b:Nat} {o:Obj} (h:b=u.heap.size):(u.alloc o).heap[b]? =some o:=by subst h;exact heap_alloc_new u o
end
section
open Go.RowKit

def N9 (n:Nat):Nat->Nat->List (Nat × Nat)
 |0,_=>[]
 |f+1,i=>if i<n then (i,Hj (n-i))::N9 n f (i+Hj (n-i)) else []
def Uk (n i:Nat):List (Nat × Nat):=N9 n (n-i) i
abbrev UC (b off q size:Nat) (p:Nat × Nat):Value:= .slice (some ⟨b,off+p.1*size,none⟩) p.2 (q-p.1)
end
section
open Go.RowKit

variable {d st k:Nat} {G:Nat->Prop} {w wr w' :World} {vt vc vt' vc' vp:Value} {ts us:List Tr} {cs ds:List Int} {PL:List Value}
end
section
open Go.RowKit
end
section
open Go.RowKit
end
section
open Go.RowKit
end
section
open Go.RowKit
end
section
open Go.RowKit
end
section
open Go.RowKit

def UP (w:World) (v:Value) (bs:List Int):Prop:=Row w v bs.length (bs.map (Value.int .u8))/\∀j,0<=bs.getD j 0/\bs.getD j 0<=255
end
section
open Go.RowKit
end
section
open Go.RowKit

structure Bel (w:World) where
 now:World
 bel:Below w.heap.size w now
end
section
open Go.RowKit
end
section
open Go.RowKit
end
section
open Go.RowKit
end
section
open Go.RowKit

def OJ:Value->Nat
 |.slice _ n _=>n
 |_=>0
end
section
open Go.RowKit
end
section
open Go.RowKit

def Lr (u:World) (B:Nat) (A:Array Value):Prop:=u.heap[B]? =some (.cells A 69 (0,0))
theorem Lr.cells {u:World} {B:Nat} {A:Array Value} (h:Lr u B A):∀j,u.cell? ⟨B,j,none⟩=A[j]? :=fun j=>cell_of_row u B j A 69 (0,0) h
theorem Lr.free {u:World} {B:Nat} {A:Array Value} (h:Lr u B A):∀j,u.frozen? ⟨B,j,none⟩=false:=fun j=>frozen_of_row u B j A 69 h
abbrev noT:Array Value:= #[.bool false, .slice none 0 0, .slice none 0 0, .slice none 0 0, .slice none 0 0]

abbrev QL (u:World) (L:Nat) (y0 y1 y2 y3 y4:Value):World:=((((u.setCell ⟨L,0,none⟩ y0).setCell ⟨L,1,none⟩ y1).setCell ⟨L,2,none⟩ y2).setCell ⟨L,3,none⟩ y3).setCell ⟨L,4,none⟩ y4
theorem Lr.set5 {u:World} {L:Nat} {x0 x1 x2 x3 x4:Value} (h:Lr u L #[x0,x1,x2,x3,x4]) (y0 y1 y2 y3 y4:Value):Lr (QL u L y0 y1 y2 y3 y4) L #[y0,y1,y2,y3,y4]:=
 heap_setCell_same _ L 4 _ 69 y4 (heap_setCell_same _ L 3 _ 69 y3 (heap_setCell_same _ L 2 _ 69 y2 (heap_setCell_same _ L 1 _ 69 y1 (heap_setCell_same u L 0 _ 69 y0 h))))
theorem QK (u:World) (L:Nat) (y0 y1 y2 y3 y4:Value):Chg (fun g=>g=L) u (QL u L y0 y1 y2 y3 y4):=(((((Chg.refl (fun g=>g=L) u).setAt L 0 rfl y0).setAt L 1 rfl y1).setAt L 2 rfl y2).setAt L 3 rfl y3).setAt L 4 rfl y4
theorem Nx {w u:World} {L:Nat} (h:Below w.heap.size w u) (hL:w.heap.size<=L) (y0 y1 y2 y3 y4:Value):Below w.heap.size w (QL u L y0 y1 y2 y3 y4):=
 ((((h.setCell (p:=⟨L,0,none⟩) hL y0).setCell (p:=⟨L,1,none⟩) hL y1).setCell (p:=⟨L,2,none⟩) hL y2).setCell (p:=⟨L,3,none⟩) hL y3).setCell (p:=⟨L,4,none⟩) hL y4

def Ur (B:Nat) (w:World):Nat:=match w.cell? ⟨B,0,none⟩ with|some (.slice _ n _)=>n|_=>0
end
section
open Go.RowKit
end
section
open Go.RowKit
end
section
open Go.RowKit
end
section
open Go.RowKit
end
section
open Go.RowKit

def Ug (J:Nat->Act->World->Prop) (Q:Exit->Act->World->Prop):Exit->Act->World->Prop
 |.goto l,a,w=>J l a w
 |e,a,w=>Q e a w
end
section
open Go.RowKit

def Un (J0 J1:Act->World->Prop) (Q:Exit->Act->World->Prop):Exit->Act->World->Prop
 |.goto 0,a,w=>J0 a w
 |.goto 1,a,w=>J1 a w
 |.goto _,_,_=>False
 |e,a,w=>Q e a w
end
section
open Go.RowKit

def Ch (w:World) (C:Nat) (A:Array Value):Prop:=w.heap[C]? =some (.cells A 197 (0,0))
theorem Ch.three {u:World} {B:Nat} {x0 x1 x2:Value} (h:Ch u B #[x0,x1,x2]):u.cell? ⟨B,0,none⟩=some x0/\u.cell? ⟨B,1,none⟩=some x1/\u.cell? ⟨B,2,none⟩=some x2:=
 ⟨by rw[cell_of_row u B 0 _ 197 (0,0) h];rfl,by rw[cell_of_row u B 1 _ 197 (0,0) h];rfl,by rw[cell_of_row u B 2 _ 197 (0,0) h];rfl⟩
theorem Ch.free {u:World} {B:Nat} {A:Array Value} (h:Ch u B A) (i:Nat):u.frozen? ⟨B,i,none⟩=false:=frozen_of_row u B i _ 197 h
theorem Ch.step {u w' :World} {B:Nat} {A:Array Value} (h:Ch u B A) (hb:Below u.heap.size u w'):Ch w' B A:=(hb.block B (Array.getElem?_eq_some_iff.1 h).1).trans h
theorem Ch.chg {P:Nat->Prop} {u w' :World} {B:Nat} {A:Array Value} (h:Ch u B A) (hc:Chg P u w') (hP:¬P B):Ch w' B A:=(hc.block B (Array.getElem?_eq_some_iff.1 h).1 hP).trans h
theorem Ch.set1 {u:World} {L:Nat} {x0 x1 x2:Value} (h:Ch u L #[x0,x1,x2]) (t:Value):Ch (u.setCell ⟨L,1,none⟩ t) L #[x0,t,x2]:=heap_setCell_same u L 1 _ 197 t h
theorem Ch.set2 {u:World} {L:Nat} {x0 x1 x2:Value} (h:Ch u L #[x0,x1,x2]) (t:Value):Ch (u.setCell ⟨L,2,none⟩ t) L #[x0,x1,t]:=heap_setCell_same u L 2 _ 197 t h

def wTV (x:TV):Nat:=1+OJ x.p+OJ x.c+OJ x.b
def BD (xs:List TV) (k:Nat):Nat:=((xs.take k).map wTV).sum
def D5 (K:Nat) (k:Nat):List Value:=(List.range k).map fun i=> .pointer (some ⟨K,i*5,none⟩)
def Slices (x:TV):Prop:=∃(r1 r2 r3 r4:Option Addr) (z1 z2 z3 z4 s1 s2 s3 s4:Nat),x=⟨x.lf, .slice r1 z1 s1, .slice r2 z2 s2, .slice r3 z3 s3, .slice r4 z4 s4⟩

theorem OZ (K k:Nat):D5 K (k+1)=D5 K k++[.pointer (some ⟨K,k*5,none⟩)]:=by simp[D5,List.range_succ]
theorem Fl (K k:Nat):(D5 K k).length=k:=by simp[D5]
theorem FI (xs:List TV) (k:Nat) (h:k<xs.length):BD xs (k+1)=BD xs k+wTV xs[k]:=by
 rw[BD,List.take_succ_eq_append_getElem h,List.map_append,List.sum_append]
 simp[BD]
theorem OC (xs:List TV):∀j k,BD xs k<=BD xs (k+j)
 |0,_=>Nat.le_refl _
 |j+1,k=>by
  have h1:=OC xs j k
  by_cases h:k+j<xs.length
  ·have:=FI xs (k+j) h
   rw[←Nat.add_assoc]
   omega
  ·have e:BD xs (k+(j+1))=BD xs (k+j):=by
    rw[BD,BD,List.take_of_length_le (by omega),List.take_of_length_le (by omega)]
   omega
theorem Ch.apart {w:World} {C base e size n:Nat} {A:Array Value} {v:Value} {xs:List Value} (h:Ch w C A) (ho:Ac w base e size v n xs) (he:e≠197):¬wrB v C:=fun k=>by
 obtain⟨c,j⟩:=ho.block C k
 rw[show w.heap[C]? =_ from h] at j
 simp at j
 exact he j.2.symm
theorem Bg.apart {w:World} {M base e size n:Nat} {V:Nat->Prop} {v:Value} {xs:List Value} (h:Bg w M V) (ho:Ac w base e size v n xs):¬wrB v M:=fun k=>by
 obtain⟨c,j⟩:=ho.block M k
 obtain⟨es,ck,hb,_⟩:=h
 rw[hb] at j
 simp at j
theorem Bg.ne {w:World} {M C:Nat} {V:Nat->Prop} {A:Array Value} (h:Bg w M V) (hC:Ch w C A):¬C=M:=fun e=>by
 obtain⟨es,ck,hb,_⟩:=h
 subst e;rw[show w.heap[C]? =_ from hC] at hb
 simp at hb
theorem Bg.set {w:World} {M b i:Nat} {V:Nat->Prop} (h:Bg w M V) (hb:CM w b) (v:Value):Bg (w.setCell ⟨b,i,none⟩ v) M V:=by
 obtain⟨c0,t0,h0⟩:=hb
 have hne:¬M=b:=fun e=>by
  obtain⟨es,ck,h1,_⟩:=h
  subst e;rw[h0] at h1
  simp at h1
 refine h.chg (Cg w b i v) hne (fun g hg c t hc=> ?_)
 subst hg;rw[h0] at hc
 obtain⟨rfl,rfl⟩:c0=c/\t0=t:=by simpa using hc
 exact⟨_,_,heap_setCell_same w g i _ _ v h0⟩

theorem Bg.keep {P:Nat->Prop} {w w' :World} {M:Nat} {V:Nat->Prop} (h:Bg w M V) (hc:Chg P w w') (hM:¬P M) (hV:∀g,V g->¬P g):Bg w' M V:=by
 obtain⟨es,clock,hb,hk⟩:=h
 refine⟨es,clock,(hc.block M (Array.getElem?_eq_some_iff.1 hb).1 hM).trans hb,fun e he=> ?_⟩
 obtain⟨a,n,h1,⟨c,t,h2⟩,h3⟩:=hk e he
 exact⟨a,n,h1,⟨c,t,(hc.block _ (Array.getElem?_eq_some_iff.1 h2).1 (hV _ h3)).trans h2⟩,h3⟩
end
end Go.Proofs.YtkcaelfkcepdkaaGreat
