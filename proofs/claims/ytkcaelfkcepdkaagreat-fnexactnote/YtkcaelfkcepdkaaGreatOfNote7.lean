/-
  A lead, a command: copied, compared; what a struct's cells are.
  What chapter 2 says of trees, as plain functions.
  Contracts of MapOk, the model's and the program's.
  Contracts of the model's chapter 2: l2Leaf.
  The contract of the model's l2Depth.
  Contracts of the model's chapter 2: TreeDepth, TreeOk, l2Count, TreeCount, l2Kid, KidOf.
  Contracts of the model's chapter 2: TreeCount, l2Kid, KidOf; of the program's countAll, kidAt.
  Contracts of the program's chapter 2: kindOf, tooDeep, has, splits, rootOf, kid.
  Contracts of the program's chapter 2: rootOf, kid.
  The contract of the program's kid.
  Contracts of the program's chapter 2: pairsOk, cutsOk, bufOk.
  Contracts of the program's chapter 2: bufOk.
  Contracts of the program's chapter 2: depthByKids, depth.
  Contracts of the program's chapter 2: TreeDepth, TreeOk, countAll, TreeCount, kidAt, KidOf.
  Contracts of the program's chapter 2: kidAt, KidOf.
  What a message makes of a map, key by key; plain mathematics.
  What chapter 3 says of trees, as plain functions: what is pending of a key, what a key has; plain mathematics.
  What map a tree tells, as plain functions: kid by kid as the model says it, leaf by leaf as the program does; plain mathematics.
  Appending to a row of one's own: one element that was just laid; a whole list.
  Contracts of the program's messages behind an interface, and of its sum at the limit.
  Shrinking messages, as the model and as the program do it; plain mathematics: both come to one.
  What comes of a tree that is given messages, as plain functions; shapes and weights.
  Appending a list to a row of one's own, at a step of a region that draws its order.
  Rows and trees with the blocks that they lie in: what stays when other blocks are written.
  The contract of the model's l3Pending.
  The contract of the program's wayDown.
  The sorted map's drop, by a contract.
  The model's way of putting into a map, pair by pair, comes to the plain function.
  Contracts of the model's small functions on maps: clamp, without, put.
  Contracts of MapGet, the model's and the program's.
  Contracts of the model's MapDo and MapAll.
  Contracts of the program's sorted map as a map of pairs: put, drop, get, turned by a message, made of a list.
  The program's sorted map made of a list of pairs, and told as one.
  The contracts of the program's MapAll and MapDo.
  The contract of the model's MapAll.
  Contracts of chapter 3's Pending and TreeGet, of the model and of the program.
  Contracts of the model's TreeMap and TreeRange.
  Contracts of the model's l4At, l4Split.
-/
import Derived.Test.YtkcaelfkcepdkaaGreatOfNote6
import Derived.Test.YtkcaelfkcepdkaaGreatOfNote4
import Derived.Test.YtkcaelfkcepdkaaGreatOfNote2
import Derived.Test.YtkcaelfkcepdkaaGreatOfNote1
import Derived.Test.YtkcaelfkcepdkaaGreatOfNote3
import Derived.Deep.DeepCutAuto
import Derived.Laws.AppendOwnNone
import Derived.Deep.RegionHeld3
import Derived.Deep.AppendLies
import Derived.Deep.LoopGhost
import Derived.Deep.RegionWith
namespace Go.Proofs.YtkcaelfkcepdkaaGreat
set_option maxRecDepth 100000
set_option maxHeartbeats 8000000
section
open Go.RowKit

theorem Rz (e:Ex) (w:World):Calls Tryz.prog 76 #[.agg (AM e).toArray] w fun r w' =>r= .returned (.agg (AM e).toArray)/\Below w.heap.size w w' :=Jn _ _ _ _ _ w
theorem RS (e:Ex) (w:World):Calls Tryz.prog 86 #[.agg (AM e).toArray, .agg (AM e).toArray] w fun r w' =>r= .returned (.bool true)/\Below w.heap.size w w':=
 (Jq _ _ _ _ _ _ _ _ _ _ w).mono fun r w' ⟨h1,h2⟩=>⟨by rw[h1,decide_eq_true rfl],h2⟩
theorem Ng (a b:Int) (w:World):Calls Tryz.prog 78 #[.agg #[.int .i64 a, .int .i64 b]] w fun r w' =>r= .returned (.agg #[.int .i64 a, .int .i64 b])/\Below w.heap.size w w' :=by
 go_enter Tryz.func78,Tryz.ntmps78
 go_wp2;refine bodyPost_ret (v:= .agg #[.int .i64 a, .int .i64 b]) (by simp[results,Tryz.results78,go_sem]) rfl ⟨rfl, ?_⟩
 exact(((Below.refl _ _).alloc (Nat.le_refl _) _).alloc (by simp) _).alloc (by simp;omega) _
theorem Qg (e:Er) (w:World):Calls Tryz.prog 78 #[.agg (AN e).toArray] w fun r w' =>r= .returned (.agg (AN e).toArray)/\Below w.heap.size w w' :=Ng _ _ w
theorem Qq (e:Er) (w:World):Calls Tryz.prog 88 #[.agg (AN e).toArray, .agg (AN e).toArray] w fun r w' =>r= .returned (.bool true)/\Below w.heap.size w w' :=by
 show Calls Tryz.prog 88 #[.agg #[.int .i64 e.1, .int .i64 e.2], .agg #[.int .i64 e.1, .int .i64 e.2]] w _
 have B2:Hid (Below w.heap.size w ((w.alloc (.cells #[.int .i64 e.1, .int .i64 e.2] 121)).alloc (.cells #[.int .i64 e.1, .int .i64 e.2] 121))):=Below.and (Ae _ _) (Ae _ _)
 go_enter Tryz.func88,Tryz.ntmps88
 go_wp2;go_ret;exact⟨rfl,B2.out⟩
theorem Fx {P:Program} {o:Oper} {a:Act} {K:Act->World->Prop} {Q:Exit->Act->World->Prop} {w:World} (x:Operand) (ho:o.op= .unOp .not 4 x) (b:Bool) (hx:a.eval x= .bool b) (h:K (a.put o.dst (.bool (!b))) w):o.wp P a w K Q:=by
 unfold Oper.wp execOp
 simp only[ho,hx]
 go_simp
 exact h
theorem Bq.ones {n:Nat} {w:World} {N:AL} {D D' :Nd} (h:Bq n w N D):(Ax (N,D')).toArray.all (·.oneCell')=true:=by
 obtain⟨id,te,vo,lb,lt,lv,s,ro,vv,nv,mv,cm,o⟩:=N
 obtain⟨h1,h2,h3,h4,h5,h6⟩:=h
 obtain⟨x1,e1⟩:=h1.sl
 obtain⟨x3,e3⟩:=h3.sl
 obtain⟨x4,e4⟩:=h4.sl
 obtain⟨x5,e5⟩:=h5.sl
 obtain⟨_,_,_,_,_,_,e2⟩:=h2.sl
 obtain⟨_,_,_,_,_,_,e6⟩:=h6.sl
 simp only at e1 e2 e3 e4 e5 e6
 subst e1 e2 e3 e4 e5 e6;simp[Ax,Value.oneCell']
theorem Cu.ones {n:Nat} {w:World} {N:BP} {D D' :Rd} (h:Cu n w N D):(AU (N,D')).toArray.all (·.oneCell')=true:=by
 obtain⟨kd,fr,tt,te,ix,it,cm,ok,ev,s⟩:=N
 obtain⟨h1,h2⟩:=h
 obtain⟨x1,e1⟩:=h1.sl
 obtain⟨_,_,_,_,_,_,e2⟩:=h2.sl
 simp only at e1 e2
 subst e1 e2;simp[AU,Value.oneCell']
end
section
def Re (n:Nat) (f:Nat->Bool):Bool:=(List.range n).all f
def SG (T:Tr) (lo hi:Int) (i:Nat):Bool:=inB (kOf T.pairs i) lo (hi-1)
def LS (T:Tr) (lo hi:Int):Bool:=Re T.pairs.length (SG T lo hi)
def OD (T:Tr) (lo hi:Int):Bool:=NO T.pairs&&(decide (T.pairs.length<=4)&&(decide (T.cuts.length+T.kids.length+T.buf.length=0)&&LS T lo hi))
def T8 (T:Tr) (lo hi:Int) (i:Nat):Bool:=Ij (mO T.buf i) (mK T.buf i) (mV T.buf i)&&(!(mO T.buf i==4)&&inB (mK T.buf i) lo (hi-1))
def QF (T:Tr) (lo hi:Int):Bool:=Re T.buf.length (T8 T lo hi)
def Q7 (T:Tr) (lo:Int) (i:Nat):Int:=if i=0 then lo else iAt T.cuts (i-1)
def toT (T:Tr) (hi:Int) (i:Nat):Int:=if i<T.cuts.length then iAt T.cuts i else hi
def To (T:Tr) (lo hi:Int) (i:Nat):Bool:=inB (iAt T.cuts i) (Q7 T lo i+1) (hi-1)
def Oy (T:Tr) (lo hi:Int):Bool:=Re T.cuts.length (To T lo hi)
def Tb (T:Tr):Bool:=decide (T.pairs.length=0)&&(decide (2<=T.kids.length/\T.kids.length<=4)&&(decide (T.cuts.length+1=T.kids.length)&&decide (T.buf.length<=6)))
def Ry (T:Tr) (lo hi:Int):Bool:=Tb T&&(QF T lo hi&&Oy T lo hi)
def TD (d:Nat->Nat) (n:Nat):Nat:=if (!(d 0==0)&&Re n fun i=>d i==d 0)=true then d 0+1 else 0
def IG:Nat->Tr->Int->Int->Nat
 |0,_,_,_=>0
 |m+1,T,lo,hi=>if T.leaf=true then (if OD T lo hi=true then 1 else 0) else if Ry T lo hi=true then TD (fun i=>IG m (Jg T i) (Q7 T lo i) (toT T hi i)) T.kids.length else 0
def Vn (m:Nat) (T:Tr) (lo hi:Int) (i:Nat):Nat:=IG m (Jg T i) (Q7 T lo i) (toT T hi i)

def QH:Nat->Tr->Nat
 |0,_=>0
 |n+1,T=>T.pairs.length+(T.kids.map (QH n)).sum
def Sl:Nat->Tr->Nat
 |0,_=>0
 |n+1,T=>T.buf.length+(T.kids.map (Sl n)).sum
def U1 (f:Tr->Nat) (ts:List Tr) (k:Nat):Nat:=((ts.take k).map f).sum
def UD (l:List Int) (k:Int):Nat:=(l.filter fun c=>decide (c<=k)).length

def Td (T:Tr):Nat:=IG 7 T 0 1000
def okT (T:Tr):Bool:=decide (0<Td T)
end
section
open Go.RowKit
end
section
open Go.RowKit

def Bf (u:World) (B:Nat) (A:Array Value):Prop:=u.heap[B]? =some (.cells A 69 (0,0))
theorem Bf.step {u w' :World} {B:Nat} {A:Array Value} (h:Bf u B A) (hb:Below u.heap.size u w'):Bf w' B A:=
 (hb.block _ (Array.getElem?_eq_some_iff.1 h).1).trans h
theorem Bf.cells {u:World} {B:Nat} {A:Array Value} (h:Bf u B A):∀j,u.cell? ⟨B,j,none⟩=A[j]? :=fun j=>cell_of_row u B j A 69 (0,0) h
theorem Bf.start (w:World) (A:Array Value):Bf (w.alloc (.cells A 69)) w.heap.size A:=heap_alloc_new w _
def UO (T:Tr) (lo hi:Int):Int:=if OD T lo hi=true then 1 else 0
end
section
open Go.RowKit
end
section
open Go.RowKit

def Ue (g:FuncId) (n:Nat):Prop:=∀(x:TV) (T:Tr) (w:World),Bb n w x T->Az n T<=1099511627776→
  Calls Tryz.prog g #[x.val] w fun e w' =>e= .returned (.tuple #[.int .i64 (QH n T:Nat), .int .i64 (Sl n T:Nat)])/\Below w.heap.size w w'
end
section
open Go.RowKit

def Oh (l:List Int) (k:Int):Nat:=(l.takeWhile fun c=>decide (c<=k)).length
def Uo (T:Tr) (k:Int):Int:=if T.leaf=true∨okT T=false then -1 else (Oh T.cuts k:Nat)
end
section
open Go.RowKit

def UX (t:TypeId) (u:World) (B:Nat) (A:Array Value):Prop:=u.heap[B]? =some (.cells A t (0,0))
theorem Rr (w:World) (o:Obj):Below w.heap.size w (w.alloc o):=(Below.refl _ _).alloc (Nat.le_refl _) _

def UT (T:Tr):Int:=if T.leaf=true then (if T.cuts.length=0/\T.kids.length=0/\T.buf.length=0 then 1 else 0) else (if T.pairs.length=0 then 2 else 0)
abbrev Ux (kd lo hi ab:Int):Value:= .agg #[.int .i64 kd, .int .i64 lo, .int .i64 hi, .int .i64 ab]
abbrev Ud (kd lo hi ab:Int) (x:TV):Value:= .agg #[.int .i64 kd, .int .i64 lo, .int .i64 hi, .int .i64 ab, .bool x.lf,x.p,x.c,x.k,x.b]
end
section
open Go.RowKit
end
section
open Go.RowKit

theorem QJ {P:Program} {code:Code} {Q:Exit->Act->World->Prop} {a:Act} {w0:World} (S:World->Prop) (h0:S w0) (h:∀W,S W->Code.wp P code Q a W):Code.wp P code Q a w0:=h _ h0
end
section
open Go.RowKit

def TC (T:Tr) (lo hi:Int):Bool:=decide (T.pairs.length<=4)&&(NO T.pairs&&LS T lo hi)
def TE (T:Tr) (lo hi:Int):Bool:=decide (2<=T.kids.length/\T.kids.length<=4)&&(decide (T.cuts.length+1=T.kids.length)&&Oy T lo hi)
end
section
open Go.RowKit

def Uf (T:Tr) (lo hi:Int):Bool:=decide (T.buf.length<=6)&&QF T lo hi
end
section
open Go.RowKit
end
section
open Go.RowKit
end
section
open Go.RowKit

def TU (l:List Int) (k:Int):Nat->Nat
 |0=>0
 |n+1=>TU l k n+(if iAt l n<=k then 1 else 0)
end
section

end
section
def ofK (ms:ML) (k:Int):ML:=ms.filter fun m=>decide (m.2.1=k)
def Tv (T:Tr) (k:Int):Tr:=Jg T (Oh T.cuts k)
def Qn:Nat->Tr->Int->Tr
 |0,T,_=>T
 |n+1,T,k=>if T.leaf=true then T else Qn n (Tv T k) k
def Ou:Nat->Tr->Int->ML
 |0,_,_=>[]
 |n+1,T,k=>if T.leaf=true then [] else Ou n (Tv T k) k++ofK T.buf k
def UI (x:Int × Bool) (m:Int × Int × Int):Int × Bool:=
 if Ij m.1 m.2.1 m.2.2=true then (if m.1=1 then (m.2.2,true) else if m.1=2 then (0,false) else if m.1=3 then (I1 (x.1+m.2.2),true) else x) else x
def Uc (x:Int × Bool) (ms:ML):Int × Bool:=ms.foldl UI x
def TS (n:Nat) (T:Tr) (k:Int):Int × Bool:=Uc (Ie (Qn n T k).pairs k) (Ou n T k)

def U0 (l:PL) (k:Int):PL:=if (Ie l k).2=true then [(k,(Ie l k).1)] else []
end
section
def QM (lo hi:Int) (l:PL):Prop:=∀p∈l,lo<=p.1/\p.1<hi
def Ua:Int->Int->List Int->List PL->Prop
 |lo,hi,[],[M]=>Tj M/\QM lo hi M
 |lo,hi,c::cs,M::Ms=>(Tj M/\QM lo c M)/\lo<c/\c<hi/\Ua c hi cs Ms
 |_,_,_,_=>False
def frC (cs:List Int) (lo:Int) (i:Nat):Int:=if i=0 then lo else iAt cs (i-1)
def toC (cs:List Int) (hi:Int) (i:Nat):Int:=if i<cs.length then iAt cs i else hi
def SC:Nat->Tr->PL
 |0,_=>[]
 |n+1,T=>Rl (T.pairs++(T.kids.map (SC n)).flatten) T.buf
def Tu (cs:List Int) (i:Nat) (ms:ML):ML:=ms.filter fun m=>decide (TU cs m.2.1 cs.length=i)
def Tw:Nat->Tr->ML->PL
 |0,_,_=>[]
 |n+1,T,ab=>if T.leaf=true then Rl T.pairs ab else ((List.range T.kids.length).map fun i=>Tw n (Jg T i) (Tu T.cuts i (T.buf++ab))).flatten

def rangeL (l:PL) (lo hi:Int):PL:=l.filter fun p=>decide (lo<=p.1/\p.1<hi)
end
section
open Go.RowKit

theorem GV {w w' :World} {r:Option Nat} (h:w.grownBy w' r):Chg (fun g=>r=some g) w w':=
 ⟨h.os,h.tape,h.output,h.size,fun k hk hn=>h.block k hk (fun e=>hn e.symm)⟩
theorem Jt (l:List (Int × Int)):∀y∈AF l,y.oneCell' =true:=by
 induction l with
 |nil=>intro y hy;simp[AF] at hy
 |cons p l ih=>
  intro y hy;rw[show AF (p::l)= .int .i64 p.1:: .int .i64 p.2::AF l from rfl] at hy
  rcases List.mem_cons.1 hy with rfl|hy
  ·rfl
  ·rcases List.mem_cons.1 hy with rfl|hy
   ·rfl
   ·exact ih y hy
theorem Q9 {n bytes:Nat} (h:n<=8388608) (hb:bytes<=256):n+1<=maxLen/\(n+1)*bytes<=140737488355328:=by
 refine⟨by unfold maxLen;omega, ?_⟩
 have:(n+1)*bytes<=(n+1)*256:=Nat.mul_le_mul_left _ hb
 omega
end
section
open Go.RowKit

def okM (m:Int × Int × Int):Bool:=Ij m.1 m.2.1 m.2.2
def U6 (ms:ML):ML:=ms.filter okM
end
section
def R8 (m:Int × Int × Int):Bool:=(m.1==1)||(m.1==2)
def SD (l:ML) (k:Int):Bool:=l.any fun m=>(m.2.1==k)&&R8 m
def TX (l:ML) (k:Int):Bool:=l.any fun m=>okM m&&((m.2.1==k)&&R8 m)
def QR:ML->ML
 |[]=>[]
 |m::l=>if okM m=true/\m.1≠4/\TX l m.2.1=false then m::QR l else QR l
def Ed:ML->Int->Int
 |[],_=> -1
 |m::l,k=>if m.2.1=k then 0 else if Ed l k<0 then -1 else Ed l k+1
def Te (A:ML) (m:Int × Int × Int):Bool:=decide (0<=Ed A m.2.1)&&((mO A (Ed A m.2.1).toNat==1)&&(m.1==3))
def Tq (A:ML) (m:Int × Int × Int):ML:=
 if Te A m=true then A.set (Ed A m.2.1).toNat (mO A (Ed A m.2.1).toNat,mK A (Ed A m.2.1).toNat,I1 (mV A (Ed A m.2.1).toNat+m.2.2)) else A++[m]
def Ox (ms:ML):ML:=(QR ms).foldl Tq []

def wgF (l:ML):ML:=l.filter fun m=>m.1 != 4
def woF:ML->ML
 |[]=>[]
 |m::l=>if SD l m.2.1=true then woF l else m::woF l
def Tn (s:ML × PL) (m:Int × Int × Int):ML × PL:=
 if m.1=1 then (s.1++[m],Ta s.2 m.2.1 s.1.length)
 else if m.1=3/\(Ie s.2 m.2.1).2=true then (s.1.set (Ie s.2 m.2.1).1.toNat (1,m.2.1,I1 (mV s.1 (Ie s.2 m.2.1).1.toNat+m.2.2)),s.2)
 else (s.1++[m],s.2)
def UN (l:ML):ML:=(l.foldl Tn ([],[])).1

def UW (l:ML):Prop:=l.Pairwise fun a b=>a.2.1=b.2.1->R8 b=false
structure Ve (A:ML) (P:PL):Prop where
 asc:Asc P
 has:∀k,(Ie P k).2=true->∃n:Nat,(Ie P k).1=n/\Ed A k=n/\n<A.length/\mO A n=1
 hasnt:∀k,(Ie P k).2=false->0<=Ed A k->mO A (Ed A k).toNat≠1

def okN (m:Int × Int × Int):Prop:=okM m=true/\m.1≠4
end
section
open Go.RowKit

abbrev TM:=List Tr × List Int

def Io (cs:List Int) (i:Nat) (b:ML):ML:=b.filter fun m=>decide (Oh cs m.2.1=i)
def Tm (cs:List Int) (i:Nat) (b:ML):ML:=b.filter fun m=> !decide (Oh cs m.2.1=i)
def Ro (cs:List Int) (b:ML):Nat->Nat
 |0=>0
 |k+1=>Ro cs b k+(Io cs k b).length
def Hu (cs:List Int) (b:ML):Nat->Nat × Int
 |0=>(0, -1)
 |k+1=>if (Hu cs b k).2<((Io cs k b).length:Int) then (k,((Io cs k b).length:Int)) else Hu cs b k
def Hj (r:Nat):Nat:=if r=3 then 3 else 2
def Sg (ps:PL):Tr:=⟨true,ps,[],[],[]⟩
def TQ (ps:PL):Nat->Nat->List Tr
 |0,_=>[]
 |f+1,i=>if i<ps.length then Sg ((ps.drop i).take (Hj (ps.length-i)))::TQ ps f (i+Hj (ps.length-i)) else []
def TB (ps:PL):Nat->Nat->List Int
 |0,_=>[]
 |f+1,i=>if i<ps.length then (if 0<i then [kOf ps i] else [])++TB ps f (i+Hj (ps.length-i)) else []
def lfT (ps:PL) (i:Nat):List Tr:=TQ ps (ps.length-i) i
def lfC (ps:PL) (i:Nat):List Int:=TB ps (ps.length-i) i
def T9 (ps:PL):TM:=if ps.length<=4 then ([Sg ps],[]) else (lfT ps 0,lfC ps 0)

def TA (m:TM) (i:Nat):Tr:=⟨false,[],(m.2.drop i).take (Hj (m.1.length-i)-1),(m.1.drop i).take (Hj (m.1.length-i)),[]⟩
def TP (m:TM):Nat->Nat->List Tr
 |0,_=>[]
 |f+1,i=>if i<m.1.length then TA m i::TP m f (i+Hj (m.1.length-i)) else []
def Tx (m:TM):Nat->Nat->List Int
 |0,_=>[]
 |f+1,i=>if i<m.1.length then (if 0<i then [iAt m.2 (i-1)] else [])++Tx m f (i+Hj (m.1.length-i)) else []
def pkT (m:TM) (i:Nat):List Tr:=TP m (m.1.length-i) i
def pkC (m:TM) (i:Nat):List Int:=Tx m (m.1.length-i) i
def QP (m:TM):TM:=(pkT m 0,pkC m 0)

def Uv (m:TM) (i:Nat) (x:TM):TM:=(m.1.take i++x.1++m.1.drop (i+1),m.2.take i++x.2++m.2.drop i)

def Ol (f:Nat->TM):Nat->List Tr
 |0=>[]
 |k+1=>Ol f k++(f k).1
def Oj (f:Nat->TM) (cs:List Int):Nat->List Int
 |0=>[]
 |k+1=>(Oj f cs k++if 0<k then [iAt cs (k-1)] else [])++(f k).2
def TF (g:Tr->ML->TM) (m:TM) (b:ML) (i:Nat):TM:=if 0<(Io m.2 i b).length then g (m.1.getD i AR) (Io m.2 i b) else ([m.1.getD i AR],[])
def Qy (g:Tr->ML->TM) (m:TM) (b:ML):TM:=(Ol (TF g m b) m.1.length,Oj (TF g m b) m.2 m.1.length)

def Sk (g:Tr->ML->TM):Nat->TM->ML->TM × ML
 |0,m,b=>(m,b)
 |f+1,m,b=>if 6<b.length then Sk g f (Uv m (Hu m.2 b m.1.length).1 (g (m.1.getD (Hu m.2 b m.1.length).1 AR) (Io m.2 (Hu m.2 b m.1.length).1 b))) (Tm m.2 (Hu m.2 b m.1.length).1 b) else (m,b)

def Uq (g:Tr->ML->TM) (r:TM × ML):TM:=if 4<r.1.1.length then QP (Qy g r.1 r.2) else ([⟨false,[],r.1.2,r.1.1,r.2⟩],[])
def Ot:Nat->Tr->ML->TM
 |0,T,_=>([T],[])
 | d + 1, T, ms => if T.leaf = true then T9 (Rl T.pairs ms) else
   Uq (Ot d) (Sk (Ot d) (Ox (T.buf++ms)).length (T.kids,T.cuts) (Ox (T.buf++ms)))

def Ty:Nat->TM->Tr
 |0,m=>m.1.getD 0 AR
 |f+1,m=>if 4<m.1.length then Ty f (QP m) else if m.1.length=1 then m.1.getD 0 AR else ⟨false,[],m.2,m.1,[]⟩

def T7 (f:Nat->TM) (m:TM):TM:=(Ol f m.1.length,Oj f m.2 m.1.length)
def UE (o:TM):TM:=if 4<o.1.length then QP o else ([⟨false,[],o.2,o.1,[]⟩],[])
def SR:Nat->Tr->TM
 |0,T=>([T],[])
 | d + 1, T => if T.leaf = true then ([T], []) else
   UE (T7 (fun i=>SR d ((Qy (Ot d) (T.kids,T.cuts) T.buf).1.getD i AR)) (Qy (Ot d) (T.kids,T.cuts) T.buf))

def shT:Nat->Tr->Prop
 |0,_=>False
 | d + 1, T => (T.leaf = true ∧ d = 0 ∧ T.pairs.length ≤ 4 ∧ T.cuts = [] ∧ T.kids = [] ∧ T.buf = []) ∨
   (T.leaf=false/\T.pairs=[]/\2<=T.kids.length/\T.kids.length<=4/\T.cuts.length+1=T.kids.length/\T.buf.length<=6/\∀t∈T.kids,shT d t)
def wt:Nat->Tr->Nat
 |0,_=>0
 |d+1,T=>if T.leaf=true then 1 else (T.kids.map (wt d)).sum+T.buf.length
def wtL (d:Nat) (ts:List Tr):Nat:=(ts.map (wt d)).sum
def MOk (d:Nat) (m:TM):Prop:=m.2.length+1=m.1.length/\∀t∈m.1,shT d t
def UY (d:Nat) (g:Tr->ML->TM):Prop:=∀T ms,shT d T->0<ms.length->MOk d (g T ms)/\wtL d (g T ms).1<=wt d T+ms.length
end
section
open Go.RowKit

theorem JM (l:ML):∀y∈AW l,y.oneCell' =true:=by
 induction l with
 |nil=>intro y hy;simp[AW] at hy
 |cons p l ih=>
  intro y hy;rw[CA] at hy
  rcases List.mem_cons.1 hy with rfl|hy
  ·rfl
  ·rcases List.mem_cons.1 hy with rfl|hy
   ·rfl
   ·rcases List.mem_cons.1 hy with rfl|hy
    ·rfl
    ·exact ih y hy
end
section
open Go.RowKit

def CM (w:World) (b:Nat):Prop:=∃(c:Array Value) (t:Nat),w.heap[b]? =some (.cells c t (0,0))
theorem CM.lt {w:World} {b:Nat} (h:CM w b):b<w.heap.size:=by
 obtain⟨c,t,h⟩:=h
 exact(Array.getElem?_eq_some_iff.1 h).1
def CT (w:World) (F:Nat->Prop) (v:Value) (n:Nat) (xs:List Value):Prop:=
 ∃(a:Option Addr) (b off cap:Nat),v= .slice a n cap/\n<=cap/\cap<=maxLen/\(0<n->a=some ⟨b,off,none⟩/\F b/\CM w b)/\(∀j u,xs[j]? =some u->w.cell? ⟨b,off+j,none⟩=some u)/\(a=none->cap=0)/\(n=0->xs=[])
theorem CT.row {w:World} {F:Nat->Prop} {v:Value} {n:Nat} {xs:List Value} (h:CT w F v n xs):Row w v n xs:=by
 obtain⟨a,b,off,cap,h1,h2,h3,h4,h5,h6,_⟩:=h
 exact⟨a,b,off,cap,h1,h2,h3,fun hn=>(h4 hn).1,h5,h6⟩
theorem CT.mono {w:World} {F G:Nat->Prop} {v:Value} {n:Nat} {xs:List Value} (h:CT w F v n xs) (hFG:∀g,F g->G g):CT w G v n xs:=by
 obtain⟨a,b,off,cap,h1,h2,h3,h4,h5,h6,h7⟩:=h
 exact⟨a,b,off,cap,h1,h2,h3,fun hn=>⟨(h4 hn).1,hFG _ (h4 hn).2.1,(h4 hn).2.2⟩,h5,h6,h7⟩
theorem CT.frame {w w' :World} {F:Nat->Prop} {v:Value} {n:Nat} {xs:List Value} (h:CT w F v n xs) (hf:∀g,F g->g<w.heap.size->w'.heap[g]? =w.heap[g]?):CT w' F v n xs:=by
 obtain⟨a,b,off,cap,h1,h2,h3,h4,h5,h6,h7⟩:=h
 refine⟨a,b,off,cap,h1,h2,h3,fun hn=>⟨(h4 hn).1,(h4 hn).2.1, ?_⟩,fun j u hj=> ?_,h6,h7⟩
 ·obtain⟨e1,e2,c,t,e3⟩:=h4 hn
  exact⟨c,t,(hf b e2 (Array.getElem?_eq_some_iff.1 e3).1).trans e3⟩
 have hc:=h5 j u hj
 rcases Nat.eq_zero_or_pos n with h0|h0
 ·rw[h7 h0] at hj;simp at hj
 ·rw[World.cell?_of_block (hf b (h4 h0).2.1 (Ah hc))]
  exact hc
theorem CT.lt {w:World} {F:Nat->Prop} {v:Value} {n:Nat} {xs:List Value} (h:CT w F v n xs) (_hx:0<n->xs≠[]):CT w (fun g=>F g/\g<w.heap.size) v n xs:=by
 obtain⟨a,b,off,cap,h1,h2,h3,h4,h5,h6,h7⟩:=h
 exact⟨a,b,off,cap,h1,h2,h3,fun hn=>⟨(h4 hn).1,⟨(h4 hn).2.1,(h4 hn).2.2.lt⟩,(h4 hn).2.2⟩,h5,h6,h7⟩
theorem CT.of_owns {w:World} {base e size n:Nat} {v:Value} {xs:List Value} (h:w.ownsRow base e size v n xs):CT w (fun g=>v.ownBlock=some g) v n xs:=by
 have h0:=h
 obtain⟨hl,h|⟨g,cap,cur,rfl,hg,hh,hn,hcap,hsz,htake⟩⟩:=h
 ·obtain⟨rfl,rfl⟩:=h
  have hx:xs=[]:=by simpa using hl
  subst hx;exact⟨none,0,0,0,rfl,Nat.le_refl _,Nat.zero_le _,fun h=>absurd h (Nat.lt_irrefl _),fun j u hj=>by simp at hj,fun _=>rfl,fun _=>rfl⟩
 ·refine⟨some ⟨g,0,none⟩,g,0,cap,rfl,hn,hcap,fun _=>⟨rfl,rfl,_,_,hh⟩,fun j u hj=> ?_,(fun h=>by cases h),fun h=> ?_⟩
  ·have hlt:j<n*size:=by
    have:=(List.getElem?_eq_some_iff.1 hj).1
    omega
   rw[Nat.zero_add,h0.cellAt j hlt]
   exact hj
  ·subst h;exact List.length_eq_zero_iff.1 (by omega)
theorem QO (l:List TV):(l.length=0->AA l=[])/\(0<l.length->AA l≠[]):=by
 have:=Dt l
 exact⟨fun h=>List.length_eq_zero_iff.1 (by omega),fun h e=>by rw[e] at this;simp at this;omega⟩

def Cv:Nat->World->(Nat->Prop)->TV->Tr->Prop
 |0,_,_,_,_=>False
 | n + 1, w, F, x, T => x.lf = T.leaf ∧ CT w F x.p T.pairs.length (AF T.pairs) ∧ CT w F x.c T.cuts.length (Am T.cuts) ∧ CT w F x.b T.buf.length (AW T.buf) ∧
   ∃xs:List TV,xs.length=T.kids.length/\CT w F x.k xs.length (AA xs)/\∀i,i<xs.length->Cv n w F (Ak xs i) (Jg T i)
def Tf (n:Nat) (w:World) (F:Nat->Prop) (v:Value) (ts:List Tr):Prop:=
 ∃xs:List TV,xs.length=ts.length/\CT w F v xs.length (AA xs)/\∀i,i<xs.length->Cv n w F (Ak xs i) (ts.getD i AR)
theorem Cv.treeAt:∀ {n:Nat} {w:World} {F:Nat->Prop} {x:TV} {T:Tr},Cv n w F x T->Bb n w x T
 |0,_,_,_,_,h=>h
 |_+1,_,_,_,_,⟨h1,h2,h3,h4,xs,h5,h6,h7⟩=>⟨h1,h2.row,h3.row,h4.row,xs,h5,h6.row,fun i hi=>(h7 i hi).treeAt⟩
theorem Cv.mono:∀ {n:Nat} {w:World} {F G:Nat->Prop} {x:TV} {T:Tr},Cv n w F x T->(∀g,F g->G g)->Cv n w G x T
 |0,_,_,_,_,_,h,_=>h
 |_+1,_,_,_,_,_,⟨h1,h2,h3,h4,xs,h5,h6,h7⟩,k=>⟨h1,h2.mono k,h3.mono k,h4.mono k,xs,h5,h6.mono k,fun i hi=>(h7 i hi).mono k⟩
theorem Cv.frame:∀ {n:Nat} {w w' :World} {F:Nat->Prop} {x:TV} {T:Tr},Cv n w F x T->(∀g,F g->g<w.heap.size->w'.heap[g]? =w.heap[g]?)->Cv n w' F x T
 |0,_,_,_,_,_,h,_=>h
 |_+1,_,_,_,_,_,⟨h1,h2,h3,h4,xs,h5,h6,h7⟩,k=>⟨h1,h2.frame k,h3.frame k,h4.frame k,xs,h5,h6.frame k,fun i hi=>(h7 i hi).frame k⟩
theorem Cv.below {n:Nat} {w w' :World} {F:Nat->Prop} {x:TV} {T:Tr} (h:Cv n w F x T) (hb:Below w.heap.size w w'):Cv n w' F x T:=h.frame fun g _ hl=>hb.block g hl
theorem CT.below {w w' :World} {F:Nat->Prop} {v:Value} {n:Nat} {xs:List Value} (h:CT w F v n xs) (hb:Below w.heap.size w w'):CT w' F v n xs:=h.frame fun g _ hl=>hb.block g hl
theorem Cv.mk {n:Nat} {w:World} {F:Nat->Prop} {x:TV} {T:Tr} (h1:x.lf=T.leaf) (h2:CT w F x.p T.pairs.length (AF T.pairs)) (h3:CT w F x.c T.cuts.length (Am T.cuts)) (h4:CT w F x.b T.buf.length (AW T.buf)) (h5:Tf n w F x.k T.kids):Cv (n+1) w F x T:=by
 obtain⟨xs,h5,h6,h7⟩:=h5
 exact⟨h1,h2,h3,h4,xs,h5,h6,h7⟩
end
section
open Go.RowKit

theorem Cx {u:World} {B:Nat} {x0 x1 x2 x3 x4:Value} (h:Bf u B #[x0,x1,x2,x3,x4]) :
  u.cell? ⟨B,0,none⟩=some x0/\u.cell? ⟨B,1,none⟩=some x1/\u.cell? ⟨B,2,none⟩=some x2/\u.cell? ⟨B,3,none⟩=some x3/\u.cell? ⟨B,4,none⟩=some x4:=by
 have:=h.cells
 exact⟨by rw[this];rfl,by rw[this];rfl,by rw[this];rfl,by rw[this];rfl,by rw[this];rfl⟩
theorem Bf.stepB {u w' :World} {B N:Nat} {A:Array Value} (h:Bf u B A) (hb:Below N u w') (hN:B<N):Bf w' B A:=(hb.block B hN).trans h
theorem Cs {w w' :World} {N b o:Nat} {v:Value} (hb:Below N w w') (hN:b<N) (h:w.cell? ⟨b,o,none⟩=some v):w'.cell? ⟨b,o,none⟩=some v:=(hb.cell (p:=⟨b,o,none⟩) hN).trans h
end
section
open Go.RowKit

theorem Bf.chg {w w' :World} {L:Nat} {A:Array Value} {p:Nat->Prop} (h:Bf w L A) (hc:Chg p w w') (hp:¬p L):Bf w' L A:=
 (hc.block L (Array.getElem?_eq_some_iff.1 h).1 hp).trans h

theorem EI {u:World} {B:Nat} {x0 x1 x2 x3 x4:Value} (h:Bf u B #[x0,x1,x2,x3,x4]) :
  (u.cell? ⟨B,0,none⟩=some x0/\u.cell? ⟨B,1,none⟩=some x1/\u.cell? ⟨B,2,none⟩=some x2/\u.cell? ⟨B,3,none⟩=some x3/\u.cell? ⟨B,4,none⟩=some x4)∧
  (u.frozen? ⟨B,0,none⟩=false/\u.frozen? ⟨B,1,none⟩=false/\u.frozen? ⟨B,2,none⟩=false/\u.frozen? ⟨B,3,none⟩=false/\u.frozen? ⟨B,4,none⟩=false):=
 ⟨Cx h,frozen_of_row u B 0 _ 69 h,frozen_of_row u B 1 _ 69 h,frozen_of_row u B 2 _ 69 h,frozen_of_row u B 3 _ 69 h,frozen_of_row u B 4 _ 69 h⟩

abbrev set5 (u:World) (L:Nat) (t0 t1 t2 t3 t4:Value):World:=((((u.setCell ⟨L,0,none⟩ t0).setCell ⟨L,1,none⟩ t1).setCell ⟨L,2,none⟩ t2).setCell ⟨L,3,none⟩ t3).setCell ⟨L,4,none⟩ t4
theorem Bf.set5 {u:World} {L:Nat} {x0 x1 x2 x3 x4:Value} (h:Bf u L #[x0,x1,x2,x3,x4]) (t0 t1 t2 t3 t4:Value):Bf (set5 u L t0 t1 t2 t3 t4) L #[t0,t1,t2,t3,t4]:=
 heap_setCell_same _ L 4 _ 69 t4 (heap_setCell_same _ L 3 _ 69 t3 (heap_setCell_same _ L 2 _ 69 t2 (heap_setCell_same _ L 1 _ 69 t1 (heap_setCell_same u L 0 _ 69 t0 h))))
theorem Fm (u:World) (L:Nat) (t0 t1 t2 t3 t4:Value):Chg (fun g=>g=L) u (set5 u L t0 t1 t2 t3 t4):=
 (((((Chg.refl (fun g=>g=L) u).setAt L 0 rfl t0).setAt L 1 rfl t1).setAt L 2 rfl t2).setAt L 3 rfl t3).setAt L 4 rfl t4
end
section
open Go.RowKit
end
section
def stp (k v:Int) (s:PL × Bool) (p:Int × Int):PL × Bool:=
 if s.2=false/\k<=p.1 then (if p.1=k then (s.1++[(k,v)],true) else (s.1++[(k,v)]++[p],true))
 else (if p.1=k then s else (s.1++[p],s.2))
def UU (k v:Int) (l:PL) (i:Nat):PL × Bool:=(l.take i).foldl (stp k v) ([],false)
def Uy (k v:Int) (s:PL × Bool):PL:=if s.2=true then s.1 else s.1++[(k,v)]
end
section
open Go.RowKit
end
section
open Go.RowKit
end
section
open Go.RowKit

theorem Cq {n bytes:Nat} (h:n<=8388608) (hb:bytes<=256):0+n<=maxLen/\(0+n)*bytes<=140737488355328:=by
 refine⟨by unfold maxLen;omega, ?_⟩
 have:(0+n)*bytes<=(0+n)*256:=Nat.mul_le_mul_left _ hb
 omega
end
section
open Go.RowKit
end
section
open Go.RowKit
end
section
open Go.RowKit
end
section
open Go.RowKit
end
section
open Go.RowKit

def UR (T:Tr) (k:Int):ML:=if okT T=true then Ou 7 T k else []
def Vm (T:Tr) (k:Int):Int × Bool:=if okT T=true then Ie (Rl (Qn 7 T k).pairs (Ou 7 T k)) k else (0,false)
end
section
open Go.RowKit

def Vf (m:Nat) (T:Tr) (j:Nat):PL:=T.pairs++((T.kids.take j).map (SC m)).flatten
def UB (T:Tr):PL:=if okT T=true then SC 7 T else []
def Ut (T:Tr) (lo hi:Int):PL:=rangeL (UB T) lo hi
end
section
open Go.RowKit
end
end Go.Proofs.YtkcaelfkcepdkaaGreat
