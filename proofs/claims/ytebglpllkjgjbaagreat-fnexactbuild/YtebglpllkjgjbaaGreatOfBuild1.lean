/-
  The plain functions that chapter 1's code computes (numbers and lists alone; nothing of the program).
  Rows of cells behind a slice's value, read and owned; lists of pairs as such rows.
  Contracts of the small functions of chapter 1 on numbers and messages.
  Contracts of the functions on lists of pairs that the laws and chapter 1 use.
  Contracts of the sorted search, the insertion and the deletion at slices of ints, laid at this program from the library of contracts.
-/
import Derived.Test.YtebglpllkjgjbaaGreatRows
import Derived.WalkKit
import Derived.WalkSpells
import Derived.WalkLawsBesides
import Derived.Deep.QuietTactic
import Derived.BigQuiet
import Derived.Deep.RegionWith
import Derived.Ground.Names2Prog
import Derived.Shelf.Slices.SearchI
import Derived.Shelf.Slices.Delete
import Derived.Shelf.Slices.Empties
import Derived.Shelf.Spec.SlicesInsert
import Derived.Shelf.Spec.SlicesInsertGrow
import Derived.Test.YtebglpllkjgjbaaGreatProg
namespace Go.Proofs.YtebglpllkjgjbaaGreat
set_option maxRecDepth 100000
set_option maxHeartbeats 8000000
section
def inB (x lo hi:Int):Bool:=decide (lo<=x/\x<=hi)
theorem Fw {x lo hi:Int} (h1:lo<=x) (h2:x<=hi):inB x lo hi=true:=by simp[inB,h1,h2]
theorem Fp {x lo hi:Int} (h1:¬lo<=x):inB x lo hi=false:=by simp[inB];omega
theorem Gj {x lo hi:Int} (h2:¬x<=hi):inB x lo hi=false:=by simp[inB];omega
theorem Ew {x lo hi:Int}:inB x lo hi=true↔lo<=x/\x<=hi:=by simp[inB]

def AO (o k v:Int):Bool:=inB o 1 4&&(inB k 0 999&&(inB v (-1000000000) 1000000000&&((v==0)||((o==1)||(o==3)))))

def kOf (l:List (Int × Int)) (i:Nat):Int:=(l.getD i (0,0)).1
def vOf (l:List (Int × Int)) (i:Nat):Int:=(l.getD i (0,0)).2
def Hh (a b c d:Int):Bool:=decide (a=c/\b=d)

def FK (l:List (Int × Int)) (i:Nat):Bool:=inB (kOf l i) 0 999&&(inB (vOf l i) (-1000000000) 1000000000&&(i==0||decide (kOf l (i-1)<kOf l i)))
def Bf (l:List (Int × Int)):Bool:=(List.range l.length).all (FK l)

theorem Ib {l:List (Int × Int)} (h:∀i,i<l.length->FK l i=true):Bf l=true:=by
 simp only[Bf,List.all_eq_true,List.mem_range];exact h
theorem Ec {l:List (Int × Int)} {i:Nat} (hi:i<l.length) (h:FK l i=false):Bf l=false:=by
 rw[Bool.eq_false_iff]
 intro hc;simp only[Bf,List.all_eq_true,List.mem_range] at hc
 have:=hc i hi
 rw[h] at this
 cases this
theorem Vi {l:List (Int × Int)} (h:Bf l=true) {i:Nat} (hi:i<l.length):FK l i=true:=by
 simp only[Bf,List.all_eq_true,List.mem_range] at h
 exact h i hi

theorem Yj {l1 l2:List (Int × Int)} (hl:l1.length=l2.length) (h:∀i,i<l1.length->kOf l1 i=kOf l2 i/\vOf l1 i=vOf l2 i):l1=l2:=by
 apply List.ext_getElem hl
 intro i h1 h2;have:=h i h1
 simp only[kOf,vOf,List.getD,List.getElem?_eq_getElem h1,List.getElem?_eq_getElem h2,Option.getD_some] at this
 exact Prod.ext this.1 this.2
theorem P9 {a b c d:Int} (h:Hh a b c d=true):a=c/\b=d:=by simpa[Hh] using h
theorem Nj {l1 l2:List (Int × Int)} {k:Nat} (h:Hh (kOf l1 k) (vOf l1 k) (kOf l2 k) (vOf l2 k)=false):l1≠l2:=by
 intro e;subst e;simp[Hh] at h
end
section
open Go.RowKit

theorem hid {p:Prop} (h:p):Hid p:=h
theorem QS {W w1:World} (hb:Below W.heap.size W w1):(∀b o,b<W.heap.size->w1.cell? ⟨b,o,none⟩=W.cell? ⟨b,o,none⟩)/\(∀b o,b<W.heap.size->w1.frozen? ⟨b,o,none⟩=W.frozen? ⟨b,o,none⟩):=
 ⟨fun b o h=>hb.cell (p:=⟨b,o,none⟩) h,fun b o h=>hb.frozen (p:=⟨b,o,none⟩) h⟩
theorem Below.and {w w1 w2:World} (h1:Below w.heap.size w w1) (h2:Below w1.heap.size w1 w2):Below w.heap.size w w2:=h1.trans (h2.mono h1.size)
theorem Az {a b:Bool} (h:a=b):Ending.returned (.bool a)= .returned (.bool b):=by rw[h]
theorem Bd {k:IntKind} {a b:Int} (h:a=b):Ending.returned (.int k a)= .returned (.int k b):=by rw[h]

theorem Aa {w:World} {a:Addr} {v:Value} (h:w.cell? a=some v):a.block<w.heap.size:=by
 unfold World.cell? at h
 by_cases hb:a.block<w.heap.size
 ·exact hb
 ·simp[Array.getElem?_eq_none (Nat.le_of_not_lt hb)] at h

def Row (w:World) (v:Value) (n:Nat) (xs:List Value):Prop:=
 ∃(a:Option Addr) (b off cap:Nat),v= .slice a n cap/\n<=cap/\cap<=maxLen/\(0<n->a=some ⟨b,off,none⟩)/\(∀j u,xs[j]? =some u->w.cell? ⟨b,off+j,none⟩=some u)/\(a=none->cap=0)

theorem Row.below {w w' :World} {v:Value} {n:Nat} {xs:List Value} (h:Row w v n xs) (hb:Below w.heap.size w w'):Row w' v n xs:=by
 obtain⟨a,b,off,cap,h1,h2,h3,h4,h5,h6⟩:=h
 refine⟨a,b,off,cap,h1,h2,h3,h4,fun j u hj=> ?_,h6⟩
 have:=h5 j u hj
 rw[hb.cell (p:=⟨b,off+j,none⟩) (Aa this)]
 exact this

theorem Row.of_owns {w:World} {base e size n:Nat} {v:Value} {xs:List Value} (h:w.ownsRow base e size v n xs):Row w v n xs:=by
 have h0:=h
 obtain⟨hl,h|⟨g,cap,cur,rfl,hg,hh,hn,hcap,hsz,htake⟩⟩:=h
 ·obtain⟨rfl,rfl⟩:=h
  have hx:xs=[]:=by simpa using hl
  subst hx;exact⟨none,0,0,0,rfl,Nat.le_refl _,Nat.zero_le _,fun h=>absurd h (Nat.lt_irrefl _),fun j u hj=>by simp at hj,fun _=>rfl⟩
 ·refine⟨some ⟨g,0,none⟩,g,0,cap,rfl,hn,hcap,fun _=>rfl,fun j u hj=> ?_,fun h=>by cases h⟩
  have hlt:j<n*size:=by
   have:=(List.getElem?_eq_some_iff.1 hj).1
   omega
  rw[Nat.zero_add,h0.cellAt j hlt]
  exact hj

theorem AD {w w' :World} {base e size n:Nat} {v:Value} {xs:List Value} (h:w.ownsRow base e size v n xs) (hb:Below w.heap.size w w'):w'.ownsRow base e size v n xs:=by
 obtain⟨hl,h|⟨g,cap,cur,rfl,hg,hh,hn,hcap,hsz,htake⟩⟩:=h
 ·exact⟨hl, .inl h⟩
 ·refine⟨hl, .inr ⟨g,cap,cur,rfl,hg, ?_,hn,hcap,hsz,htake⟩⟩
  rw[hb.block g (Array.getElem?_eq_some_iff.1 hh).1]
  exact hh
theorem AM {w:World} {base base' e size n:Nat} {v:Value} {xs:List Value} (h:w.ownsRow base e size v n xs) (hb:base' <=base):w.ownsRow base' e size v n xs:=by
 obtain⟨hl,h|⟨g,cap,cur,rfl,hg,hh,hn,hcap,hsz,htake⟩⟩:=h
 ·exact⟨hl, .inl h⟩
 ·exact⟨hl, .inr ⟨g,cap,cur,rfl,Nat.le_trans hb hg,hh,hn,hcap,hsz,htake⟩⟩

def Af (l:List (Int × Int)):List Value:=l.flatMap fun p=>[.int .i64 p.1, .int .i64 p.2]

theorem Br (l:List (Int × Int)):(Af l).length=l.length*2:=by
 induction l with
 |nil=>rfl
 |cons a l ih=>simp only[Af,List.flatMap_cons,List.length_append,List.length_cons,List.length_nil] at *;omega
theorem FZ (l m:List (Int × Int)):Af (l++m)=Af l++Af m:=by simp[Af,List.flatMap_append]
theorem Jk (l:List (Int × Int)):∀i,i<l.length->(Af l)[i*2]? =some (.int .i64 (kOf l i))/\(Af l)[i*2+1]? =some (.int .i64 (vOf l i)):=by
 induction l with
 |nil=>intro i h;simp at h
 |cons a l ih=>
  intro i h
  cases i with
  |zero=>simp[Af,kOf,vOf]
  |succ i=>
   have:=ih i (by simpa using h)
   have e1:(i+1)*2=i*2+1+1:=by omega
   have e2:(i+1)*2+1=(i*2+1)+1+1:=by omega
   rw[e2,e1]
   simpa[Af,kOf,vOf] using this

theorem Row.pairs {w:World} {v:Value} {l:List (Int × Int)} (h:Row w v l.length (Af l)) :
  ∃(a:Option Addr) (b off cap:Nat),v= .slice a l.length cap/\l.length<=cap/\cap<=maxLen/\(0<l.length->a=some ⟨b,off,none⟩)∧
   (∀i,i<l.length->w.cell? ⟨b,off+i*2,none⟩=some (.int .i64 (kOf l i)))/\(∀i,i<l.length->w.cell? ⟨b,off+i*2+1,none⟩=some (.int .i64 (vOf l i))):=by
 obtain⟨a,b,off,cap,h1,h2,h3,h4,h5,_⟩:=h
 exact⟨a,b,off,cap,h1,h2,h3,h4,fun i hi=>h5 _ _ (Jk l i hi).1,fun i hi=>h5 _ _ (Jk l i hi).2⟩
end
section
open Go.RowKit

theorem Cr (x lo hi:Int) (w:World) :
  Calls Tryz.prog 35 #[.int .i64 x, .int .i64 lo, .int .i64 hi] w fun e w' =>e= .returned (.bool (inB x lo hi))/\w' =w:=by
 by_cases h1:lo<=x
 ·by_cases h2:x<=hi
  ·have E:Hid (inB x lo hi=true):=Fw h1 h2
   go_enter Tryz.func35,Tryz.ntmps35
   go_wp2;go_ret;exact⟨Az E.out.symm,rfl⟩
  ·have E:Hid (inB x lo hi=false):=Gj h2
   go_enter Tryz.func35,Tryz.ntmps35
   go_wp2;go_ret;exact⟨Az E.out.symm,rfl⟩
 ·have E:Hid (inB x lo hi=false):=Fp h1
  go_enter Tryz.func35,Tryz.ntmps35
  go_wp2;go_ret;exact⟨Az E.out.symm,rfl⟩

theorem FG (x:Int) (w:World) :
  Calls Tryz.prog 36 #[.int .i64 x] w fun e w' =>e= .returned (.bool (inB x (-1000000000) 1000000000))/\w' =w:=by
 go_enter Tryz.func36,Tryz.ntmps36
 go_wp2_with (go_at_call 35;refine(Cr _ _ _ _).mono ?_;rintro e w' ⟨rfl,rfl⟩)
 go_ret;exact⟨rfl,rfl⟩

theorem Ek (x:Int) (w:World) :
  Calls Tryz.prog 43 #[.int .i64 x] w fun e w' =>e= .returned (.bool (inB x 0 999))/\w' =w:=by
 by_cases h1:0<=x
 ·by_cases h2:x<=999
  ·have E:Hid (inB x 0 999=true):=Fw h1 h2
   go_enter Tryz.func43,Tryz.ntmps43
   go_wp2;go_ret;exact⟨Az E.out.symm,rfl⟩
  ·have E:Hid (inB x 0 999=false):=Gj h2
   go_enter Tryz.func43,Tryz.ntmps43
   go_wp2;go_ret;exact⟨Az E.out.symm,rfl⟩
 ·have E:Hid (inB x 0 999=false):=Fp h1
  go_enter Tryz.func43,Tryz.ntmps43
  go_wp2;go_ret;exact⟨Az E.out.symm,rfl⟩

theorem Dt (x:Int) (w:World) :
  Calls Tryz.prog 44 #[.int .i64 x] w fun e w' =>e= .returned (.bool (inB x (-1000000000) 1000000000))/\w' =w:=by
 by_cases h1: -1000000000<=x
 ·by_cases h2:x<=1000000000
  ·have E:Hid (inB x (-1000000000) 1000000000=true):=Fw h1 h2
   go_enter Tryz.func44,Tryz.ntmps44
   go_wp2;go_ret;exact⟨Az E.out.symm,rfl⟩
  ·have E:Hid (inB x (-1000000000) 1000000000=false):=Gj h2
   go_enter Tryz.func44,Tryz.ntmps44
   go_wp2;go_ret;exact⟨Az E.out.symm,rfl⟩
 ·have E:Hid (inB x (-1000000000) 1000000000=false):=Fp h1
  go_enter Tryz.func44,Tryz.ntmps44
  go_wp2;go_ret;exact⟨Az E.out.symm,rfl⟩

theorem Cp (o k v:Int) (w:World) :
  Calls Tryz.prog 38 #[.agg #[.int .i64 o, .int .i64 k, .int .i64 v]] w fun e w' =>e= .returned (.bool (AO o k v))/\Below w.heap.size w w' :=by
 go_enter Tryz.func38,Tryz.ntmps38
 go_wp2_with (first|(go_at_call 35;refine(Cr _ _ _ _).mono ?_;rintro e w' ⟨rfl,rfl⟩)|(go_at_call 36;refine(FG _ _).mono ?_;rintro e w' ⟨rfl,rfl⟩))
 all_goals (go_ret;refine⟨Az ?_,(Below.refl _ _).alloc (Nat.le_refl _) _⟩;simp_all[AO,Bool.or_assoc])

theorem QJ {o k v:Int} (h:o=1∨o=3):AO o k v=(inB k 0 999&&inB v (-1000000000) 1000000000):=by
 rcases h with rfl|rfl<;>simp[AO,inB]
theorem Rh {o k v:Int} (h:o=2∨o=4):AO o k v=(inB k 0 999&&(v==0)):=by
 have ho:inB o 1 4=true:=by rcases h with rfl|rfl<;>rfl
 have h1:(o==1)=false:=by rcases h with rfl|rfl<;>rfl
 have h3:(o==3)=false:=by rcases h with rfl|rfl<;>rfl
 by_cases hv:v=0
 ·subst hv;have:inB 0 (-1000000000) 1000000000=true:=by decide
  simp[AO,ho,this]
 ·have:(v==0)=false:=by simpa using hv
  simp[AO,h1,h3,this]
theorem Wd {o k v:Int} (h1:(o==1)=false) (h2:(o==2)=false) (h3:(o==3)=false) (h4:(o==4)=false):AO o k v=false:=by
 have:inB o 1 4=false:=by
  simp only[beq_eq_false_iff_ne] at *
  simp only[inB,decide_eq_false_iff_not];omega
 simp[AO,this]

theorem Dk (o k v:Int) (w:World) :
  Calls Tryz.prog 46 #[.agg #[.int .i64 o, .int .i64 k, .int .i64 v]] w fun e w' =>e= .returned (.bool (AO o k v))/\Below w.heap.size w w' :=by
 rcases(show(o==1)=true∨((o==1)=false/\(o==3)=true)∨((o==1)=false/\(o==3)=false/\(o==2)=true)∨((o==1)=false/\(o==3)=false/\(o==2)=false/\(o==4)=true)∨((o==1)=false/\(o==3)=false/\(o==2)=false/\(o==4)=false) from by
  cases (o==1)<;>cases (o==2)<;>cases (o==3)<;>cases (o==4)<;>simp) with h|⟨h1,h⟩|⟨h1,h3,h⟩|⟨h1,h3,h2,h⟩|⟨h1,h3,h2,h⟩
 ·have E:Hid (AO o k v=(inB k 0 999&&inB v (-1000000000) 1000000000)):=QJ (Or.inl (by simpa using h))
  go_enter Tryz.func46,Tryz.ntmps46
  go_wp2_with (first|(go_at_call 43;refine(Ek _ _).mono ?_;rintro e w' ⟨rfl,rfl⟩)|(go_at_call 44;refine(Dt _ _).mono ?_;rintro e w' ⟨rfl,rfl⟩))
  all_goals (go_ret;refine⟨Az ?_,(Below.refl _ _).alloc (Nat.le_refl _) _⟩;rw[E.out];simp[*])
 ·have E:Hid (AO o k v=(inB k 0 999&&inB v (-1000000000) 1000000000)):=QJ (Or.inr (by simpa using h))
  go_enter Tryz.func46,Tryz.ntmps46
  go_wp2_with (first|(go_at_call 43;refine(Ek _ _).mono ?_;rintro e w' ⟨rfl,rfl⟩)|(go_at_call 44;refine(Dt _ _).mono ?_;rintro e w' ⟨rfl,rfl⟩))
  all_goals (go_ret;refine⟨Az ?_,(Below.refl _ _).alloc (Nat.le_refl _) _⟩;rw[E.out];simp[*])
 ·have E:Hid (AO o k v=(inB k 0 999&&(v==0))):=Rh (Or.inl (by simpa using h))
  go_enter Tryz.func46,Tryz.ntmps46
  go_wp2_with (first|(go_at_call 43;refine(Ek _ _).mono ?_;rintro e w' ⟨rfl,rfl⟩)|(go_at_call 44;refine(Dt _ _).mono ?_;rintro e w' ⟨rfl,rfl⟩))
  all_goals (go_ret;refine⟨Az ?_,(Below.refl _ _).alloc (Nat.le_refl _) _⟩;rw[E.out];simp[*])
 ·have E:Hid (AO o k v=(inB k 0 999&&(v==0))):=Rh (Or.inr (by simpa using h))
  go_enter Tryz.func46,Tryz.ntmps46
  go_wp2_with (first|(go_at_call 43;refine(Ek _ _).mono ?_;rintro e w' ⟨rfl,rfl⟩)|(go_at_call 44;refine(Dt _ _).mono ?_;rintro e w' ⟨rfl,rfl⟩))
  all_goals (go_ret;refine⟨Az ?_,(Below.refl _ _).alloc (Nat.le_refl _) _⟩;rw[E.out];simp[*])
 ·have E:Hid (AO o k v=false):=Wd h1 h2 h3 h
  go_enter Tryz.func46,Tryz.ntmps46
  go_wp2;go_ret;exact⟨Az E.out.symm,(Below.refl _ _).alloc (Nat.le_refl _) _⟩
end
section
open Go.RowKit

theorem Rz (k v:Int) (w:World) :
  Calls Tryz.prog 18 #[.agg #[.int .i64 k, .int .i64 v]] w fun e w' =>e= .returned (.agg #[.int .i64 k, .int .i64 v])/\Below w.heap.size w w' :=by
 go_enter Tryz.func18,Tryz.ntmps18
 go_wp2;refine bodyPost_ret (v:= .agg #[.int .i64 k, .int .i64 v]) (by simp[results,Tryz.results18,go_sem]) rfl ⟨rfl, ?_⟩
 exact(((Below.refl _ _).alloc (Nat.le_refl _) _).alloc (by simp) _).alloc (by simp;omega) _

theorem LU (a b c d:Int) (w:World) :
  Calls Tryz.prog 27 #[.agg #[.int .i64 a, .int .i64 b], .agg #[.int .i64 c, .int .i64 d]] w fun e w' =>e= .returned (.bool (Hh a b c d))/\Below w.heap.size w w' :=by
 go_enter Tryz.func27,Tryz.ntmps27
 go_wp2
 all_goals (go_ret;refine⟨Az ?_,((Below.refl _ _).alloc (Nat.le_refl _) _).alloc (by simp) _⟩;simp_all[Hh])

theorem Rw (a:Option Addr) (n cap:Nat) (left:Int) (hn:n<=maxLen) (hl:0<=left) (hl2:left<=1048576) (w:World) :
  Calls Tryz.prog 4 #[.slice a n cap, .int .i64 left] w fun e w' =>e= .returned (.int .i64 (if (n:Int)<=left then left-n else -1))/\w' =w:=by
 unfold maxLen at hn;by_cases h:(n:Int)<=left
 ·go_enter Tryz.func4,Tryz.ntmps4
  go_wp2;go_ret;exact⟨rfl,rfl⟩
 ·go_enter Tryz.func4,Tryz.ntmps4
  go_wp2;go_ret;exact⟨rfl,rfl⟩

theorem Tryz.info42:(Tryz.prog.info? 42).map (fun i=>(i.zero,i.size,i.bytes))=some (some (.agg #[.int .i64 0, .int .i64 0]),2,16):=by kernel_rfl

def Eg (l:List (Int × Int)) (k:Nat):List Value:=Af (l.take k)++List.replicate ((l.length-k)*2) (.int .i64 0)

theorem IA (zs:Array Value) (z:Value) (h0:0<zs.size) (h:∀i,i<zs.size->zs[i]! =z) (n:Nat):(madeCells zs n).toList=List.replicate n z:=by
 apply List.ext_getElem?
 intro j;by_cases hj:j<n
 ·simp[madeCells,hj]
  exact h _ (Nat.mod_lt _ h0)
 ·simp[madeCells,hj]

theorem Ow (l:List (Int × Int)):Eg l l.length=Af l:=by simp[Eg]
theorem Gp (l:List (Int × Int)) (k:Nat) (hk:k<l.length):l.take (k+1)=l.take k++[(kOf l k,vOf l k)]:=by
 have e:(kOf l k,vOf l k)=l[k]:=by simp[kOf,vOf,List.getD,hk]
 rw[List.take_succ_eq_append_getElem hk,e]
theorem Jg (l:List (Int × Int)) (k:Nat) (hk:k<l.length):(Eg l k)[k*2]? =some (.int .i64 0)/\(Eg l k)[k*2+1]? =some (.int .i64 0):=by
 have hl:(Af (l.take k)).length=k*2:=by rw[Br];simp;omega
 constructor
 ·rw[Eg,List.getElem?_append_right (by omega),List.getElem?_replicate_of_lt (by omega)]
 ·rw[Eg,List.getElem?_append_right (by omega),List.getElem?_replicate_of_lt (by omega)]
theorem Ps (l:List (Int × Int)) (k:Nat) (hk:k<l.length):((Eg l k).set (k*2) (.int .i64 (kOf l k))).set (k*2+1) (.int .i64 (vOf l k))=Eg l (k+1):=by
 have hl:(Af (l.take k)).length=k*2:=by rw[Br];simp;omega
 obtain⟨m,hm⟩:∃m,(l.length-k)*2=m+1+1:=⟨(l.length-k)*2-2,by omega⟩
 have hm2:(l.length-(k+1))*2=m:=by omega
 rw[Eg,Eg,Gp l k hk,FZ,hm,hm2,List.replicate_succ,List.replicate_succ]
 rw[List.set_append_right _ _ (by omega),hl,Nat.sub_self,List.set_cons_zero,List.set_append_right _ _ (by omega),hl,show k*2+1-k*2=1 by omega]
 simp[Af]

theorem Qf (v:Value) (l:List (Int × Int)) (w:World) (hr:Row w v l.length (Af l)) (hn:l.length<=1048576) :
  Calls Tryz.prog 6 #[v] w fun e w' =>∃v',e= .returned v' ∧w'.ownsRow w.heap.size 42 2 v' l.length (Af l)/\Below w.heap.size w w' :=by
 obtain⟨a,b,off,cap,rfl,hcap,hmax,ha,hk,hv⟩:=hr.pairs
 obtain⟨i0,hi,hz0,hz1,hz2⟩:=info_parts Tryz.info42
 unfold maxLen at hmax;go_enter Tryz.func6,Tryz.ntmps6
 go_wp2_with (at_make;refine wpList_make_full _ rfl _ _ 24 rfl w.heap.size 42 i0 _ 2 Tryz.underlying24 hi hz0 hz1 .i64 .i64 _ _ l.length rfl rfl rfl rfl ?c1 ?c2 ?c3 ?_)
 case c1=>rw[hz2];omega
 case c2=>unfold maxLen;omega
 case c3=>exact Nat.le_refl _
 intro w0 hown0 hgrow0;have hb0:Below w.heap.size w w0:=(Below.refl _ _).grown hgrow0 (Nat.le_refl _) (fun k hk=>by cases hk)
 clear hgrow0;go_wp2;go_loopw [4] (fun i wr=>∃k:Nat,k<=l.length/\i= .int .i64 k/\wr.ownsRow w.heap.size 42 2 (.slice (some ⟨w.heap.size,0,none⟩) l.length l.length) l.length (Eg l k)/\Below w.heap.size w wr)
  (fun i _=>l.length-(intOf i).toNat)
 case atStart=>exact⟨0,Nat.zero_le _,rfl,by rw[IA _ (.int .i64 0) (by decide) (fun i hi=>by match i,hi with|0,_=>rfl|1,_=>rfl)] at hown0;simpa[Eg,Af] using hown0,hb0⟩
 case round=>
  obtain⟨k,hkl,rfl,hown,hb⟩:=hrel
  clear hown0 hb0;by_cases hlt:k<l.length
  ·have hal:=ha (by omega)
   subst hal;have c0:=hk k hlt
   have c1:=hv k hlt
   have hbl:=Aa c0
   have d0:wr.cell? ⟨b,off+k*2,none⟩=some (.int .i64 (kOf l k)):=(hb.cell (by exact hbl)).trans c0
   have d1:wr.cell? ⟨b,off+k*2+1,none⟩=some (.int .i64 (vOf l k)):=(hb.cell (by exact hbl)).trans c1
   clear hk hv c0 c1 ha;go_wp2_with fail;refine(Rz _ _ _).mono ?_
   rintro e w1 ⟨rfl,hb1⟩
   have own1:=AD hown hb1
   have e0:=(own1.cellAt (k*2) (by omega)).trans (Jg l k hlt).1
   have e1:=(own1.cellAt (k*2+1) (by omega)).trans (Jg l k hlt).2
   have f0:=own1.frozenAt (k*2)
   have f1:=own1.frozenAt (k*2+1)
   have st:=(own1.stored (k*2) (.int .i64 (kOf l k))).1
   have st2:=(st.stored (k*2+1) (.int .i64 (vOf l k))).1
   rw[Ps l k hlt] at st2
   have hb2:Below w.heap.size w w1:=hb.trans (hb1.mono hb.size)
   clear st hown hb1 d0 d1 own1;have ST:Hid (((w1.setCell ⟨w.heap.size,k*2,none⟩ (.int .i64 (kOf l k))).setCell ⟨w.heap.size,k*2+1,none⟩ (.int .i64 (vOf l k))).ownsRow w.heap.size 42 2 (.slice (some ⟨w.heap.size,0,none⟩) l.length l.length) l.length (Eg l (k+1))):=st2
   clear st2;go_wp2;go_roundw
   case rel=>exact⟨k+1,by omega,by go_num,ST.out,(hb2.setCell (Nat.le_refl _) _).setCell (Nat.le_refl _) _⟩
   case measure=>simp[intOf];omega
  ·go_wp2;go_ret;have hkk:k=l.length:=by omega
   subst hkk;rw[Ow] at hown
   exact⟨_,rfl,hown,hb⟩

theorem Kp (v1 v2:Value) (l1 l2:List (Int × Int)) (w:World) (h1:Row w v1 l1.length (Af l1)) (h2:Row w v2 l2.length (Af l2)) :
  Calls Tryz.prog 9 #[v1,v2] w fun e w' =>e= .returned (.bool (decide (l1=l2)))/\Below w.heap.size w w' :=by
 obtain⟨a,b,off,cap,rfl,hcap,hmax,ha,hk,hv⟩:=h1.pairs
 obtain⟨a2,b2,off2,cap2,rfl,hcap2,hmax2,ha2,hk2,hv2⟩:=h2.pairs
 unfold maxLen at hmax hmax2;by_cases hl:l1.length=l2.length
 ·have hne:((l1.length:Int) != (l2.length:Int))=false:=by rw[bne_eq_false_iff_eq];omega
  have HL:Hid (l1.length=l2.length):=hl
  have hl2:l1.length<=l2.length:=by omega
  clear hl;go_enter Tryz.func9,Tryz.ntmps9
  go_wp2;go_loopw [5] (fun i wr=>∃k:Nat,k<=l1.length/\i= .int .i64 k/\(∀i,i<k->kOf l1 i=kOf l2 i/\vOf l1 i=vOf l2 i)/\Below w.heap.size w wr)
   (fun i _=>l1.length-(intOf i).toNat)
  case atStart=>exact⟨0,Nat.zero_le _,rfl,fun i hi=>absurd hi (Nat.not_lt_zero _),Below.refl _ _⟩
  case round=>
   obtain⟨k,hkl,rfl,hall,hb⟩:=hrel
   have ALL:Hid (∀i,i<k->kOf l1 i=kOf l2 i/\vOf l1 i=vOf l2 i):=hall
   clear hall;by_cases hlt:k<l1.length
   ·have hal:=ha (by omega)
    subst hal;have hal2:=ha2 (by omega)
    subst hal2;have hlt2:k<l2.length:=by omega
    have d0:wr.cell? ⟨b,off+k*2,none⟩=some (.int .i64 (kOf l1 k)):=(hb.cell (by exact Aa (hk k hlt))).trans (hk k hlt)
    have d1:wr.cell? ⟨b,off+k*2+1,none⟩=some (.int .i64 (vOf l1 k)):=(hb.cell (by exact Aa (hv k hlt))).trans (hv k hlt)
    have d2:wr.cell? ⟨b2,off2+k*2,none⟩=some (.int .i64 (kOf l2 k)):=(hb.cell (by exact Aa (hk2 k (by omega)))).trans (hk2 k (by omega))
    have d3:wr.cell? ⟨b2,off2+k*2+1,none⟩=some (.int .i64 (vOf l2 k)):=(hb.cell (by exact Aa (hv2 k (by omega)))).trans (hv2 k (by omega))
    clear hk hv ha hk2 hv2 ha2;go_wp2_with fail
    cases hq:Hh (kOf l1 k) (vOf l1 k) (kOf l2 k) (vOf l2 k)
    ·have NE:Hid (decide (l1=l2)=false):=decide_eq_false (Nj hq)
     go_region_with (go_at_call 27;refine(LU _ _ _ _ _).mono ?_;rintro e w1 ⟨rfl,hb1⟩)
     all_goals
      go_wp2;go_ret;exact⟨Az NE.out.symm,hb.drew.trans (hb1.mono hb.size)⟩
    ·have EQ:Hid (kOf l1 k=kOf l2 k/\vOf l1 k=vOf l2 k):=P9 hq
     go_region_with (go_at_call 27;refine(LU _ _ _ _ _).mono ?_;rintro e w1 ⟨rfl,hb1⟩)
     all_goals
      go_wp2;go_roundw
      case rel=>exact⟨k+1,by omega,by go_num,fun i hi=>if h:i<k then ALL.out i h else by rw[show i=k by omega];exact EQ.out,hb.drew.trans (hb1.mono hb.size)⟩
      case measure=>simp[intOf];omega
   ·go_wp2;go_ret;refine⟨Az ?_,hb⟩
    symm
    rw[decide_eq_true_iff]
    exact Yj HL.out (fun i hi=>ALL.out i (by omega))
 ·have hne:((l1.length:Int) != (l2.length:Int))=true:=by rw[bne_iff_ne];omega
  go_enter Tryz.func9,Tryz.ntmps9
  go_wp2;go_ret;refine⟨Az ?_,Below.refl _ _⟩
  symm
  rw[decide_eq_false_iff_not]
  intro h;exact hl (by rw[h])
end
end Go.Proofs.YtebglpllkjgjbaaGreat
namespace Go.Proofs
open Go.Shelf
def Tryz.laysNm237_ren:Go.Shelf.Ren:=⟨fun|37=>140|n=>n,fun|3=>3|4=>4|n=>n,fun|n=>n⟩
theorem Tryz.laysNm237:Go.Proofs.Lays2.n37 Tryz.prog Tryz.laysNm237_ren:={
  mixed:=by kernel_rfl
  f37:=Tryz.func140.trans (congrArg some (by kernel_rfl))
  t3:=Tryz.underlying3
  a3:=Tryz.isAgg3
  z3:=Tryz.sizeOf3
  v3:=Tryz.zeroValue3
  t4:=Tryz.underlying4
  a4:=Tryz.isAgg4
  z4:=Tryz.sizeOf4
  v4:=Tryz.zeroValue4 }
open Go.RowKit Go.Lib in
theorem Tryz.cmp_isNaN_int2 (x:Int) (w:World) :
    Calls Tryz.prog 140 #[.int .i64 x] w fun e w' =>e= .returned (.bool false)/\w' =w:=Any.cmp_isNaN_int2 Tryz.laysNm237 x w
def Tryz.laysNm232_ren:Go.Shelf.Ren:=⟨fun|32=>135|n=>n,fun|3=>3|4=>4|n=>n,fun|n=>n⟩
theorem Tryz.laysNm232:Go.Proofs.Lays2.n32 Tryz.prog Tryz.laysNm232_ren:={
  mixed:=by kernel_rfl
  f32:=Tryz.func135.trans (congrArg some (by kernel_rfl))
  t3:=Tryz.underlying3
  a3:=Tryz.isAgg3
  z3:=Tryz.sizeOf3
  v3:=Tryz.zeroValue3
  t4:=Tryz.underlying4
  a4:=Tryz.isAgg4
  z4:=Tryz.sizeOf4
  v4:=Tryz.zeroValue4 }
open Go.RowKit Go.Lib in
theorem Tryz.slices_isNaN_int2 (x:Int) (w:World) :
    Calls Tryz.prog 135 #[.int .i64 x] w fun e w' =>e= .returned (.bool false)/\w' =w:=Any.slices_isNaN_int2 Tryz.laysNm232 x w
def Tryz.laysNm231_ren:Go.Shelf.Ren:=⟨fun|31=>134|37=>140|n=>n,fun|3=>3|4=>4|n=>n,fun|n=>n⟩
theorem Tryz.laysNm231:Go.Proofs.Lays2.n31 Tryz.prog Tryz.laysNm231_ren:={
  mixed:=by kernel_rfl
  f31:=Tryz.func134.trans (congrArg some (by kernel_rfl))
  f37:=Tryz.func140.trans (congrArg some (by kernel_rfl))
  t3:=Tryz.underlying3
  a3:=Tryz.isAgg3
  z3:=Tryz.sizeOf3
  v3:=Tryz.zeroValue3
  t4:=Tryz.underlying4
  a4:=Tryz.isAgg4
  z4:=Tryz.sizeOf4
  v4:=Tryz.zeroValue4 }
open Go.RowKit Go.Lib in
theorem Tryz.cmp_Less_int2 (x y:Int) (w:World) :
    Calls Tryz.prog 134 #[.int .i64 x, .int .i64 y] w fun e w' =>e= .returned (.bool (decide (x<y)))/\w' =w:=Any.cmp_Less_int2 Tryz.laysNm231 x y w
def Tryz.laysNm225_ren:Go.Shelf.Ren:=⟨fun|25=>127|31=>134|32=>135|37=>140|n=>n,fun|22=>25|3=>3|4=>4|40=>166|0=>0|n=>n,fun|n=>n⟩
theorem Tryz.laysNm225:Go.Proofs.Lays2.n25 Tryz.prog Tryz.laysNm225_ren:={
  mixed:=by kernel_rfl
  f25:=Tryz.func127.trans (congrArg some (by kernel_rfl))
  f31:=Tryz.func134.trans (congrArg some (by kernel_rfl))
  f32:=Tryz.func135.trans (congrArg some (by kernel_rfl))
  f37:=Tryz.func140.trans (congrArg some (by kernel_rfl))
  t0:=Tryz.underlying0
  a0:=Tryz.isAgg0
  z0:=Tryz.sizeOf0
  v0:=Tryz.zeroValue0
  t3:=Tryz.underlying3
  a3:=Tryz.isAgg3
  z3:=Tryz.sizeOf3
  v3:=Tryz.zeroValue3
  t4:=Tryz.underlying4
  a4:=Tryz.isAgg4
  z4:=Tryz.sizeOf4
  v4:=Tryz.zeroValue4
  t22:=Tryz.underlying25
  a22:=Tryz.isAgg25
  z22:=Tryz.sizeOf25
  v22:=Tryz.zeroValue25
  t40:=Tryz.underlying166
  a40:=Tryz.isAgg166
  z40:=Tryz.sizeOf166
  v40:=Tryz.zeroValue166 }
open Go.RowKit Go.Lib in
theorem Tryz.slices_BinarySearch_int (b off n c:Nat) (zs:List Int) (x:Int) (w:World) (hz:n<=zs.length) (hbig:n<4611686018427387904) (hc:∀j,j<zs.length->w.cell? ⟨b,off+j,none⟩=some (.int .i64 (zs.getD j 0))) (hs:(zs.take n).Pairwise (· <= ·)) :
    Calls Tryz.prog 127 #[.slice (some ⟨b,off,none⟩) n c, .int .i64 x] w fun e w' =>e= .returned (.tuple #[.int .i64 ((zs.take n).countP (· < x):Nat), .bool ((zs.take n).contains x)])/\∃q,w' =w.drewN q:=Any.slices_BinarySearch_int Tryz.laysNm225 b off n c zs x w hz hbig hc hs
def Tryz.laysNm223_ren:Go.Shelf.Ren:=⟨fun|23=>129|n=>n,fun|22=>25|3=>3|4=>4|0=>0|n=>n,fun|n=>n⟩
theorem Tryz.laysNm223:Go.Proofs.Lays2.n23 Tryz.prog Tryz.laysNm223_ren:={
  mixed:=by kernel_rfl
  f23:=Tryz.func129.trans (congrArg some (by kernel_rfl))
  t0:=Tryz.underlying0
  a0:=Tryz.isAgg0
  z0:=Tryz.sizeOf0
  v0:=Tryz.zeroValue0
  t3:=Tryz.underlying3
  a3:=Tryz.isAgg3
  z3:=Tryz.sizeOf3
  v3:=Tryz.zeroValue3
  t4:=Tryz.underlying4
  a4:=Tryz.isAgg4
  z4:=Tryz.sizeOf4
  v4:=Tryz.zeroValue4
  t22:=Tryz.underlying25
  a22:=Tryz.isAgg25
  z22:=Tryz.sizeOf25
  v22:=Tryz.zeroValue25
  i3:=by kernel_rfl }
open Go.RowKit Go.Lib Go.Sort in
theorem Tryz.slices_Delete_int_arr (blk off cap i j:Nat) (d:Array Int) (w:World) (hH:Holds encI w blk off d) (hcap:d.size<=cap) (hm:cap<=9223372036854775807) (hij:i<=j) (hj:j<=d.size) :
    Calls Tryz.prog 129 #[.slice (some ⟨blk,off,none⟩) d.size cap, .int .i64 i, .int .i64 j] w fun e w' =>e= .returned (.slice (some ⟨blk,off,none⟩) (d.size-(j-i)) cap)/\∃q,w' =putRow encI (Sort.ahead w q) blk off (d.toList.take i++d.toList.drop j++List.replicate (j-i) 0).toArray:=Any.slices_Delete_int_arr Tryz.laysNm223 blk off cap i j d w hH hcap hm hij hj
open Go.RowKit Go.Lib Go.Sort in
theorem Tryz.slices_Delete_int (blk off cap i j:Nat) (zs:List Int) (w:World) (hH:Holds (Value.int .i64) w blk off zs.toArray) (hcap:zs.length<=cap) (hm:cap<=9223372036854775807) (hij:i<=j) (hj:j<=zs.length) :
    Calls Tryz.prog 129 #[.slice (some ⟨blk,off,none⟩) zs.length cap, .int .i64 i, .int .i64 j] w fun e w' =>e= .returned (.slice (some ⟨blk,off,none⟩) (zs.length-(j-i)) cap)/\∃q,w' =putRow (Value.int .i64) (Sort.ahead w q) blk off (zs.take i++zs.drop j++List.replicate (j-i) 0).toArray:=Any.slices_Delete_int Tryz.laysNm223 blk off cap i j zs w hH hcap hm hij hj
open Go.RowKit Go.Lib in
theorem Tryz.slices_BinarySearch_int_empty (a:Option Addr) (c:Nat) (x:Int) (w:World) :
    Calls Tryz.prog 127 #[.slice a 0 c, .int .i64 x] w fun e w' =>e= .returned (.tuple #[.int .i64 0, .bool false])/\w' =w:=Any.slices_BinarySearch_int_empty Tryz.laysNm225 a c x w
open Go.RowKit Go.Lib in
theorem Tryz.slices_Delete_int_empty (a:Option Addr) (c:Nat) (w:World) :
    Calls Tryz.prog 129 #[.slice a 0 c, .int .i64 0, .int .i64 0] w fun e w' =>e= .returned (.slice a 0 c)/\w' =w:=Any.slices_Delete_int_empty Tryz.laysNm223 a c w
def Tryz.laysNm221_ren:Go.Shelf.Ren:=⟨fun|21=>128|27=>136|28=>137|35=>141|39=>142|n=>n,fun|22=>25|3=>3|4=>4|0=>0|n=>n,fun|n=>n⟩
theorem Tryz.laysNm221:Go.Proofs.Lays2.n21 Tryz.prog Tryz.laysNm221_ren:={
  mixed:=by kernel_rfl
  f21:=Tryz.func128.trans (congrArg some (by kernel_rfl))
  f27:=Tryz.func136.trans (congrArg some (by kernel_rfl))
  f28:=Tryz.func137.trans (congrArg some (by kernel_rfl))
  f35:=Tryz.func141.trans (congrArg some (by kernel_rfl))
  f39:=Tryz.func142.trans (congrArg some (by kernel_rfl))
  t0:=Tryz.underlying0
  a0:=Tryz.isAgg0
  z0:=Tryz.sizeOf0
  v0:=Tryz.zeroValue0
  t3:=Tryz.underlying3
  a3:=Tryz.isAgg3
  z3:=Tryz.sizeOf3
  v3:=Tryz.zeroValue3
  t4:=Tryz.underlying4
  a4:=Tryz.isAgg4
  z4:=Tryz.sizeOf4
  v4:=Tryz.zeroValue4
  t22:=Tryz.underlying25
  a22:=Tryz.isAgg25
  z22:=Tryz.sizeOf25
  v22:=Tryz.zeroValue25
  i3:=by kernel_rfl }
open Go.RowKit Go.Lib in
theorem Tryz.slices_Insert_int_shift (b off n c i vb voff m vc:Nat) (cs vs:List Value) (w:World) (hi:i<n) (hm:0<m) (hroom:n+m<=c) (hc63:c<=9223372036854775807) (hvb:vb≠b)
    (hcl:cs.length=n) (hvl:vs.length=m)
    (hcs:∀j v,cs[j]? =some v->w.cell? ⟨b,off+j,none⟩=some v) (hsp:∀j,j<n+m->(w.cell? ⟨b,off+j,none⟩).isSome=true) (hfz:∀j,j<n+m->w.frozen? ⟨b,off+j,none⟩=false)
    (hvs:∀j v,vs[j]? =some v->w.cell? ⟨vb,voff+j,none⟩=some v) (h1c:∀v∈cs,v.oneCell' =true) (h1v:∀v∈vs,v.oneCell' =true)
    (tA tB:TypeId) (kA kB:Nat) (hsa:w.shape? vb=some (tA,kA)) (hsb:w.shape? b=some (tB,kB)) (hkB:kB≠0) (hfa:w.frozen? ⟨vb,voff,none⟩=false) (hfe:w.frozen? ⟨vb,kA,none⟩=false) :
    Calls Tryz.prog 128 #[.slice (some ⟨b,off,none⟩) n c, .int .i64 i, .slice (some ⟨vb,voff,none⟩) m vc] w fun e w'=>
      e= .returned (.slice (some ⟨b,off,none⟩) (n+m) c)/\w' =(w.drew.setCells b (off+(i+m)) (cs.drop i)).setCells b (off+i) vs:=Any2.slices_Insert_int_shift Tryz.laysNm221 b off n c i vb voff m vc cs vs w hi hm hroom hc63 hvb hcl hvl hcs hsp hfz hvs h1c h1v tA tB kA kB hsa hsb hkB hfa hfe
open Go.RowKit Go.Lib in
theorem Tryz.slices_Insert_int_end_room (b off n c vb voff m vc:Nat) (vs:List Value) (w:World) (hm:0<m) (hroom:n+m<=c) (hc63:c<=9223372036854775807)
    (hvl:vs.length=m) (hsp:∀j,j<m->(w.cell? ⟨b,off+n+j,none⟩).isSome=true) (hfz:∀j,j<m->w.frozen? ⟨b,off+n+j,none⟩=false)
    (hvs:∀j v,vs[j]? =some v->w.cell? ⟨vb,voff+j,none⟩=some v) (h1v:∀v∈vs,v.oneCell' =true) :
    Calls Tryz.prog 128 #[.slice (some ⟨b,off,none⟩) n c, .int .i64 n, .slice (some ⟨vb,voff,none⟩) m vc] w fun e w'=>
      e= .returned (.slice (some ⟨b,off,none⟩) (n+m) c)/\w' =w.setCells b (off+n) vs:=Any2.slices_Insert_int_end_room Tryz.laysNm221 b off n c vb voff m vc vs w hm hroom hc63 hvl hsp hfz hvs h1v
open Go.RowKit Go.Lib in
theorem Tryz.slices_Insert_int_end_grow (base:Option Addr) (n c vb voff m vc:Nat) (cs vs:List Value) (w:World) (hm:0<m) (hnc:n<=c) (hroom:c<n+m) (hbig:(n+m)*8<=140737488355328)
    (hcl:cs.length=n) (hvl:vs.length=m) (hnil:base=none->n=0)
    (hcs:∀a,base=some a->∀j v,cs[j]? =some v->w.cell? (a.add j)=some v)
    (hvs:∀j v,vs[j]? =some v->w.cell? ⟨vb,voff+j,none⟩=some v) (h1v:∀v∈vs,v.oneCell' =true) :
    Calls Tryz.prog 128 #[.slice base n c, .int .i64 n, .slice (some ⟨vb,voff,none⟩) m vc] w fun e w'=>
      e= .returned (.slice (some ⟨w.heap.size,0,none⟩) (n+m) (grownCap w (n+m) c 3))∧
      w' =w.drew.alloc (.cells ((cs++vs).toArray++Builtin.zeroCells (Value.int .i64 0).cells (grownCap w (n+m) c 3-(n+m))) 3):=Any2.slices_Insert_int_end_grow Tryz.laysNm221 base n c vb voff m vc cs vs w hm hnc hroom hbig hcl hvl hnil hcs hvs h1v
open Go.RowKit Go.Lib in
theorem Tryz.slices_Insert_int_grow (b off n c i vb voff m vc:Nat) (cs vs:List Value) (w:World) (hi:i<n) (hm:0<m) (hnc:n<=c) (hroom:c<n+m) (hbig:(n+m)*8<=140737488355328)
    (hcl:cs.length=n) (hvl:vs.length=m)
    (hcs:∀j v,cs[j]? =some v->w.cell? ⟨b,off+j,none⟩=some v)
    (hvs:∀j v,vs[j]? =some v->w.cell? ⟨vb,voff+j,none⟩=some v) (h1c:∀v∈cs,v.oneCell' =true) (h1v:∀v∈vs,v.oneCell' =true) :
    Calls Tryz.prog 128 #[.slice (some ⟨b,off,none⟩) n c, .int .i64 i, .slice (some ⟨vb,voff,none⟩) m vc] w fun e w'=>
      e= .returned (.slice (some ⟨w.heap.size,0,none⟩) (n+m) (grownCap w (n+m) c 3))∧
      w' =(((w.alloc (.cells ((cs.take i).toArray++Builtin.zeroCells (Value.int .i64 0).cells (n+m-i)++Builtin.zeroCells (Value.int .i64 0).cells (grownCap w (n+m) c 3-(n+m))) 3)).drew.setCells w.heap.size i vs).drew).setCells w.heap.size (i+m) (cs.drop i):=Any2.slices_Insert_int_grow Tryz.laysNm221 b off n c i vb voff m vc cs vs w hi hm hnc hroom hbig hcl hvl hcs hvs h1c h1v
end Go.Proofs
namespace Go.Proofs.YtebglpllkjgjbaaGreat
end Go.Proofs.YtebglpllkjgjbaaGreat
