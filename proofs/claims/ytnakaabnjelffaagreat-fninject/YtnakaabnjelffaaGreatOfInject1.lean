/-
  The plain functions that chapter 1's code computes (numbers and lists alone; nothing of the program).
  Rows of cells behind a slice's value, read and owned; lists of pairs as such rows.
  Contracts of the small functions of chapter 1 on numbers and messages.
  Contracts of the functions on lists of pairs that the laws and chapter 1 use.
  Contracts of the sorted search, the insertion and the deletion at slices of ints, laid at this program from the library of contracts.
  What a call changes, told by the set of blocks that it may write; rows of ints under insertion and deletion.
-/
import Derived.Test.YtnakaabnjelffaaGreatRows
import Derived.WalkKit
import Derived.WalkSpells
import Derived.WalkLawsBesides
import Derived.Deep.QuietTactic
import Derived.BigQuiet
import Derived.Deep.RegionWith
import Derived.Ground.Names2Prog
import Derived.Shelf.Slices.SearchI
import Derived.Shelf.Slices.Delete
import Derived.Shelf.Slices.Empties
import Derived.Shelf.Spec.SlicesInsert
import Derived.Shelf.Spec.SlicesInsertGrow
import Derived.Test.YtnakaabnjelffaaGreatProg
namespace Go.Proofs.YtnakaabnjelffaaGreat
set_option maxRecDepth 100000
set_option maxHeartbeats 8000000
section
def inB (x lo hi:Int):Bool:=decide (lo<=x/\x<=hi)
theorem FD {x lo hi:Int} (h1:lo<=x) (h2:x<=hi):inB x lo hi=true:=by simp[inB,h1,h2]
theorem Fl {x lo hi:Int} (h1:¬lo<=x):inB x lo hi=false:=by simp[inB];omega
theorem Gg {x lo hi:Int} (h2:¬x<=hi):inB x lo hi=false:=by simp[inB];omega
theorem Ey {x lo hi:Int}:inB x lo hi=true↔lo<=x/\x<=hi:=by simp[inB]

def AK (o k v:Int):Bool:=inB o 1 4&&(inB k 0 999&&(inB v (-1000000000) 1000000000&&((v==0)||((o==1)||(o==3)))))

def kOf (l:List (Int × Int)) (i:Nat):Int:=(l.getD i (0,0)).1
def vOf (l:List (Int × Int)) (i:Nat):Int:=(l.getD i (0,0)).2
def Y4 (a b c d:Int):Bool:=decide (a=c/\b=d)

def FK (l:List (Int × Int)) (i:Nat):Bool:=inB (kOf l i) 0 999&&(inB (vOf l i) (-1000000000) 1000000000&&(i==0||decide (kOf l (i-1)<kOf l i)))
def Bo (l:List (Int × Int)):Bool:=(List.range l.length).all (FK l)

theorem Ia {l:List (Int × Int)} (h:∀i,i<l.length->FK l i=true):Bo l=true:=by
 simp only[Bo,List.all_eq_true,List.mem_range];exact h
theorem D7 {l:List (Int × Int)} {i:Nat} (hi:i<l.length) (h:FK l i=false):Bo l=false:=by
 rw[Bool.eq_false_iff]
 intro hc;simp only[Bo,List.all_eq_true,List.mem_range] at hc
 have:=hc i hi
 rw[h] at this
 cases this
theorem Ve {l:List (Int × Int)} (h:Bo l=true) {i:Nat} (hi:i<l.length):FK l i=true:=by
 simp only[Bo,List.all_eq_true,List.mem_range] at h
 exact h i hi
end
section
open Go.RowKit

theorem hid {p:Prop} (h:p):Hid p:=h
theorem Q6 {W w1:World} (hb:Below W.heap.size W w1):(∀b o,b<W.heap.size->w1.cell? ⟨b,o,none⟩=W.cell? ⟨b,o,none⟩)/\(∀b o,b<W.heap.size->w1.frozen? ⟨b,o,none⟩=W.frozen? ⟨b,o,none⟩):=
 ⟨fun b o h=>hb.cell (p:=⟨b,o,none⟩) h,fun b o h=>hb.frozen (p:=⟨b,o,none⟩) h⟩
theorem Below.and {w w1 w2:World} (h1:Below w.heap.size w w1) (h2:Below w1.heap.size w1 w2):Below w.heap.size w w2:=h1.trans (h2.mono h1.size)
theorem AS {a b:Bool} (h:a=b):Ending.returned (.bool a)= .returned (.bool b):=by rw[h]
theorem Bq {k:IntKind} {a b:Int} (h:a=b):Ending.returned (.int k a)= .returned (.int k b):=by rw[h]

theorem Aa {w:World} {a:Addr} {v:Value} (h:w.cell? a=some v):a.block<w.heap.size:=by
 unfold World.cell? at h
 by_cases hb:a.block<w.heap.size
 ·exact hb
 ·simp[Array.getElem?_eq_none (Nat.le_of_not_lt hb)] at h

def Row (w:World) (v:Value) (n:Nat) (xs:List Value):Prop:=
 ∃(a:Option Addr) (b off cap:Nat),v= .slice a n cap/\n<=cap/\cap<=maxLen/\(0<n->a=some ⟨b,off,none⟩)/\(∀j u,xs[j]? =some u->w.cell? ⟨b,off+j,none⟩=some u)/\(a=none->cap=0)

theorem Row.below {w w' :World} {v:Value} {n:Nat} {xs:List Value} (h:Row w v n xs) (hb:Below w.heap.size w w'):Row w' v n xs:=by
 obtain⟨a,b,off,cap,h1,h2,h3,h4,h5,h6⟩:=h
 refine⟨a,b,off,cap,h1,h2,h3,h4,fun j u hj=> ?_,h6⟩
 have:=h5 j u hj
 rw[hb.cell (p:=⟨b,off+j,none⟩) (Aa this)]
 exact this

theorem Row.of_owns {w:World} {base e size n:Nat} {v:Value} {xs:List Value} (h:w.ownsRow base e size v n xs):Row w v n xs:=by
 have h0:=h
 obtain⟨hl,h|⟨g,cap,cur,rfl,hg,hh,hn,hcap,hsz,htake⟩⟩:=h
 ·obtain⟨rfl,rfl⟩:=h
  have hx:xs=[]:=by simpa using hl
  subst hx;exact⟨none,0,0,0,rfl,Nat.le_refl _,Nat.zero_le _,fun h=>absurd h (Nat.lt_irrefl _),fun j u hj=>by simp at hj,fun _=>rfl⟩
 ·refine⟨some ⟨g,0,none⟩,g,0,cap,rfl,hn,hcap,fun _=>rfl,fun j u hj=> ?_,fun h=>by cases h⟩
  have hlt:j<n*size:=by
   have:=(List.getElem?_eq_some_iff.1 hj).1
   omega
  rw[Nat.zero_add,h0.cellAt j hlt]
  exact hj

theorem AJ {w w' :World} {base e size n:Nat} {v:Value} {xs:List Value} (h:w.ownsRow base e size v n xs) (hb:Below w.heap.size w w'):w'.ownsRow base e size v n xs:=by
 obtain⟨hl,h|⟨g,cap,cur,rfl,hg,hh,hn,hcap,hsz,htake⟩⟩:=h
 ·exact⟨hl, .inl h⟩
 ·refine⟨hl, .inr ⟨g,cap,cur,rfl,hg, ?_,hn,hcap,hsz,htake⟩⟩
  rw[hb.block g (Array.getElem?_eq_some_iff.1 hh).1]
  exact hh
theorem AR {w:World} {base base' e size n:Nat} {v:Value} {xs:List Value} (h:w.ownsRow base e size v n xs) (hb:base' <=base):w.ownsRow base' e size v n xs:=by
 obtain⟨hl,h|⟨g,cap,cur,rfl,hg,hh,hn,hcap,hsz,htake⟩⟩:=h
 ·exact⟨hl, .inl h⟩
 ·exact⟨hl, .inr ⟨g,cap,cur,rfl,Nat.le_trans hb hg,hh,hn,hcap,hsz,htake⟩⟩

def Au (l:List (Int × Int)):List Value:=l.flatMap fun p=>[.int .i64 p.1, .int .i64 p.2]

theorem Cx (l:List (Int × Int)):(Au l).length=l.length*2:=by
 induction l with
 |nil=>rfl
 |cons a l ih=>simp only[Au,List.flatMap_cons,List.length_append,List.length_cons,List.length_nil] at *;omega
theorem Hq (l m:List (Int × Int)):Au (l++m)=Au l++Au m:=by simp[Au,List.flatMap_append]
theorem Rg (l:List (Int × Int)):∀i,i<l.length->(Au l)[i*2]? =some (.int .i64 (kOf l i))/\(Au l)[i*2+1]? =some (.int .i64 (vOf l i)):=by
 induction l with
 |nil=>intro i h;simp at h
 |cons a l ih=>
  intro i h
  cases i with
  |zero=>simp[Au,kOf,vOf]
  |succ i=>
   have:=ih i (by simpa using h)
   have e1:(i+1)*2=i*2+1+1:=by omega
   have e2:(i+1)*2+1=(i*2+1)+1+1:=by omega
   rw[e2,e1]
   simpa[Au,kOf,vOf] using this

theorem Row.pairs {w:World} {v:Value} {l:List (Int × Int)} (h:Row w v l.length (Au l)) :
  ∃(a:Option Addr) (b off cap:Nat),v= .slice a l.length cap/\l.length<=cap/\cap<=maxLen/\(0<l.length->a=some ⟨b,off,none⟩)∧
   (∀i,i<l.length->w.cell? ⟨b,off+i*2,none⟩=some (.int .i64 (kOf l i)))/\(∀i,i<l.length->w.cell? ⟨b,off+i*2+1,none⟩=some (.int .i64 (vOf l i))):=by
 obtain⟨a,b,off,cap,h1,h2,h3,h4,h5,_⟩:=h
 exact⟨a,b,off,cap,h1,h2,h3,h4,fun i hi=>h5 _ _ (Rg l i hi).1,fun i hi=>h5 _ _ (Rg l i hi).2⟩
end
section
open Go.RowKit

theorem Cp (x lo hi:Int) (w:World) :
  Calls Tryz.prog 55 #[.int .i64 x, .int .i64 lo, .int .i64 hi] w fun e w' =>e= .returned (.bool (inB x lo hi))/\w' =w:=by
 by_cases h1:lo<=x
 ·by_cases h2:x<=hi
  ·have E:Hid (inB x lo hi=true):=FD h1 h2
   go_enter Tryz.func55,Tryz.ntmps55
   go_wp2;go_ret;exact⟨AS E.out.symm,rfl⟩
  ·have E:Hid (inB x lo hi=false):=Gg h2
   go_enter Tryz.func55,Tryz.ntmps55
   go_wp2;go_ret;exact⟨AS E.out.symm,rfl⟩
 ·have E:Hid (inB x lo hi=false):=Fl h1
  go_enter Tryz.func55,Tryz.ntmps55
  go_wp2;go_ret;exact⟨AS E.out.symm,rfl⟩

theorem FG (x:Int) (w:World) :
  Calls Tryz.prog 56 #[.int .i64 x] w fun e w' =>e= .returned (.bool (inB x (-1000000000) 1000000000))/\w' =w:=by
 go_enter Tryz.func56,Tryz.ntmps56
 go_wp2_with (go_at_call 55;refine(Cp _ _ _ _).mono ?_;rintro e w' ⟨rfl,rfl⟩)
 go_ret;exact⟨rfl,rfl⟩

theorem D8 (x:Int) (w:World) :
  Calls Tryz.prog 46 #[.int .i64 x] w fun e w' =>e= .returned (.bool (inB x 0 999))/\w' =w:=by
 by_cases h1:0<=x
 ·by_cases h2:x<=999
  ·have E:Hid (inB x 0 999=true):=FD h1 h2
   go_enter Tryz.func46,Tryz.ntmps46
   go_wp2;go_ret;exact⟨AS E.out.symm,rfl⟩
  ·have E:Hid (inB x 0 999=false):=Gg h2
   go_enter Tryz.func46,Tryz.ntmps46
   go_wp2;go_ret;exact⟨AS E.out.symm,rfl⟩
 ·have E:Hid (inB x 0 999=false):=Fl h1
  go_enter Tryz.func46,Tryz.ntmps46
  go_wp2;go_ret;exact⟨AS E.out.symm,rfl⟩

theorem Ds (x:Int) (w:World) :
  Calls Tryz.prog 47 #[.int .i64 x] w fun e w' =>e= .returned (.bool (inB x (-1000000000) 1000000000))/\w' =w:=by
 by_cases h1: -1000000000<=x
 ·by_cases h2:x<=1000000000
  ·have E:Hid (inB x (-1000000000) 1000000000=true):=FD h1 h2
   go_enter Tryz.func47,Tryz.ntmps47
   go_wp2;go_ret;exact⟨AS E.out.symm,rfl⟩
  ·have E:Hid (inB x (-1000000000) 1000000000=false):=Gg h2
   go_enter Tryz.func47,Tryz.ntmps47
   go_wp2;go_ret;exact⟨AS E.out.symm,rfl⟩
 ·have E:Hid (inB x (-1000000000) 1000000000=false):=Fl h1
  go_enter Tryz.func47,Tryz.ntmps47
  go_wp2;go_ret;exact⟨AS E.out.symm,rfl⟩

theorem Cm (o k v:Int) (w:World) :
  Calls Tryz.prog 28 #[.agg #[.int .i64 o, .int .i64 k, .int .i64 v]] w fun e w' =>e= .returned (.bool (AK o k v))/\Below w.heap.size w w' :=by
 go_enter Tryz.func28,Tryz.ntmps28
 go_wp2_with (first|(go_at_call 55;refine(Cp _ _ _ _).mono ?_;rintro e w' ⟨rfl,rfl⟩)|(go_at_call 56;refine(FG _ _).mono ?_;rintro e w' ⟨rfl,rfl⟩))
 all_goals (go_ret;refine⟨AS ?_,(Below.refl _ _).alloc (Nat.le_refl _) _⟩;simp_all[AK,Bool.or_assoc])

theorem Q0 {o k v:Int} (h:o=1∨o=3):AK o k v=(inB k 0 999&&inB v (-1000000000) 1000000000):=by
 rcases h with rfl|rfl<;>simp[AK,inB]
theorem Qi {o k v:Int} (h:o=2∨o=4):AK o k v=(inB k 0 999&&(v==0)):=by
 have ho:inB o 1 4=true:=by rcases h with rfl|rfl<;>rfl
 have h1:(o==1)=false:=by rcases h with rfl|rfl<;>rfl
 have h3:(o==3)=false:=by rcases h with rfl|rfl<;>rfl
 by_cases hv:v=0
 ·subst hv;have:inB 0 (-1000000000) 1000000000=true:=by decide
  simp[AK,ho,this]
 ·have:(v==0)=false:=by simpa using hv
  simp[AK,h1,h3,this]
theorem V4 {o k v:Int} (h1:(o==1)=false) (h2:(o==2)=false) (h3:(o==3)=false) (h4:(o==4)=false):AK o k v=false:=by
 have:inB o 1 4=false:=by
  simp only[beq_eq_false_iff_ne] at *
  simp only[inB,decide_eq_false_iff_not];omega
 simp[AK,this]

theorem Df (o k v:Int) (w:World) :
  Calls Tryz.prog 21 #[.agg #[.int .i64 o, .int .i64 k, .int .i64 v]] w fun e w' =>e= .returned (.bool (AK o k v))/\Below w.heap.size w w' :=by
 rcases(show(o==1)=true∨((o==1)=false/\(o==3)=true)∨((o==1)=false/\(o==3)=false/\(o==2)=true)∨((o==1)=false/\(o==3)=false/\(o==2)=false/\(o==4)=true)∨((o==1)=false/\(o==3)=false/\(o==2)=false/\(o==4)=false) from by
  cases (o==1)<;>cases (o==2)<;>cases (o==3)<;>cases (o==4)<;>simp) with h|⟨h1,h⟩|⟨h1,h3,h⟩|⟨h1,h3,h2,h⟩|⟨h1,h3,h2,h⟩
 ·have E:Hid (AK o k v=(inB k 0 999&&inB v (-1000000000) 1000000000)):=Q0 (Or.inl (by simpa using h))
  go_enter Tryz.func21,Tryz.ntmps21
  go_wp2_with (first|(go_at_call 46;refine(D8 _ _).mono ?_;rintro e w' ⟨rfl,rfl⟩)|(go_at_call 47;refine(Ds _ _).mono ?_;rintro e w' ⟨rfl,rfl⟩))
  all_goals (go_ret;refine⟨AS ?_,(Below.refl _ _).alloc (Nat.le_refl _) _⟩;rw[E.out];simp[*])
 ·have E:Hid (AK o k v=(inB k 0 999&&inB v (-1000000000) 1000000000)):=Q0 (Or.inr (by simpa using h))
  go_enter Tryz.func21,Tryz.ntmps21
  go_wp2_with (first|(go_at_call 46;refine(D8 _ _).mono ?_;rintro e w' ⟨rfl,rfl⟩)|(go_at_call 47;refine(Ds _ _).mono ?_;rintro e w' ⟨rfl,rfl⟩))
  all_goals (go_ret;refine⟨AS ?_,(Below.refl _ _).alloc (Nat.le_refl _) _⟩;rw[E.out];simp[*])
 ·have E:Hid (AK o k v=(inB k 0 999&&(v==0))):=Qi (Or.inl (by simpa using h))
  go_enter Tryz.func21,Tryz.ntmps21
  go_wp2_with (first|(go_at_call 46;refine(D8 _ _).mono ?_;rintro e w' ⟨rfl,rfl⟩)|(go_at_call 47;refine(Ds _ _).mono ?_;rintro e w' ⟨rfl,rfl⟩))
  all_goals (go_ret;refine⟨AS ?_,(Below.refl _ _).alloc (Nat.le_refl _) _⟩;rw[E.out];simp[*])
 ·have E:Hid (AK o k v=(inB k 0 999&&(v==0))):=Qi (Or.inr (by simpa using h))
  go_enter Tryz.func21,Tryz.ntmps21
  go_wp2_with (first|(go_at_call 46;refine(D8 _ _).mono ?_;rintro e w' ⟨rfl,rfl⟩)|(go_at_call 47;refine(Ds _ _).mono ?_;rintro e w' ⟨rfl,rfl⟩))
  all_goals (go_ret;refine⟨AS ?_,(Below.refl _ _).alloc (Nat.le_refl _) _⟩;rw[E.out];simp[*])
 ·have E:Hid (AK o k v=false):=V4 h1 h2 h3 h
  go_enter Tryz.func21,Tryz.ntmps21
  go_wp2;go_ret;exact⟨AS E.out.symm,(Below.refl _ _).alloc (Nat.le_refl _) _⟩
end
section
open Go.RowKit

theorem Tryz.info63:(Tryz.prog.info? 63).map (fun i=>(i.zero,i.size,i.bytes))=some (some (.agg #[.int .i64 0, .int .i64 0]),2,16):=by kernel_rfl

def Y5 (l:List (Int × Int)) (k:Nat):List Value:=Au (l.take k)++List.replicate ((l.length-k)*2) (.int .i64 0)

theorem Nw (zs:Array Value) (z:Value) (h0:0<zs.size) (h:∀i,i<zs.size->zs[i]! =z) (n:Nat):(madeCells zs n).toList=List.replicate n z:=by
 apply List.ext_getElem?
 intro j;by_cases hj:j<n
 ·simp[madeCells,hj]
  exact h _ (Nat.mod_lt _ h0)
 ·simp[madeCells,hj]

theorem Hn (l:List (Int × Int)) (k:Nat) (hk:k<l.length):l.take (k+1)=l.take k++[(kOf l k,vOf l k)]:=by
 have e:(kOf l k,vOf l k)=l[k]:=by simp[kOf,vOf,List.getD,hk]
 rw[List.take_succ_eq_append_getElem hk,e]
end
end Go.Proofs.YtnakaabnjelffaaGreat
namespace Go.Proofs
open Go.Shelf
def Tryz.laysNm237_ren:Go.Shelf.Ren:=⟨fun|37=>138|n=>n,fun|3=>3|4=>4|n=>n,fun|n=>n⟩
theorem Tryz.laysNm237:Go.Proofs.Lays2.n37 Tryz.prog Tryz.laysNm237_ren:={
  mixed:=by kernel_rfl
  f37:=Tryz.func138.trans (congrArg some (by kernel_rfl))
  t3:=Tryz.underlying3
  a3:=Tryz.isAgg3
  z3:=Tryz.sizeOf3
  v3:=Tryz.zeroValue3
  t4:=Tryz.underlying4
  a4:=Tryz.isAgg4
  z4:=Tryz.sizeOf4
  v4:=Tryz.zeroValue4 }
open Go.RowKit Go.Lib in
theorem Tryz.cmp_isNaN_int2 (x:Int) (w:World) :
    Calls Tryz.prog 138 #[.int .i64 x] w fun e w' =>e= .returned (.bool false)/\w' =w:=Any.cmp_isNaN_int2 Tryz.laysNm237 x w
def Tryz.laysNm232_ren:Go.Shelf.Ren:=⟨fun|32=>135|n=>n,fun|3=>3|4=>4|n=>n,fun|n=>n⟩
theorem Tryz.laysNm232:Go.Proofs.Lays2.n32 Tryz.prog Tryz.laysNm232_ren:={
  mixed:=by kernel_rfl
  f32:=Tryz.func135.trans (congrArg some (by kernel_rfl))
  t3:=Tryz.underlying3
  a3:=Tryz.isAgg3
  z3:=Tryz.sizeOf3
  v3:=Tryz.zeroValue3
  t4:=Tryz.underlying4
  a4:=Tryz.isAgg4
  z4:=Tryz.sizeOf4
  v4:=Tryz.zeroValue4 }
open Go.RowKit Go.Lib in
theorem Tryz.slices_isNaN_int2 (x:Int) (w:World) :
    Calls Tryz.prog 135 #[.int .i64 x] w fun e w' =>e= .returned (.bool false)/\w' =w:=Any.slices_isNaN_int2 Tryz.laysNm232 x w
def Tryz.laysNm231_ren:Go.Shelf.Ren:=⟨fun|31=>134|37=>138|n=>n,fun|3=>3|4=>4|n=>n,fun|n=>n⟩
theorem Tryz.laysNm231:Go.Proofs.Lays2.n31 Tryz.prog Tryz.laysNm231_ren:={
  mixed:=by kernel_rfl
  f31:=Tryz.func134.trans (congrArg some (by kernel_rfl))
  f37:=Tryz.func138.trans (congrArg some (by kernel_rfl))
  t3:=Tryz.underlying3
  a3:=Tryz.isAgg3
  z3:=Tryz.sizeOf3
  v3:=Tryz.zeroValue3
  t4:=Tryz.underlying4
  a4:=Tryz.isAgg4
  z4:=Tryz.sizeOf4
  v4:=Tryz.zeroValue4 }
open Go.RowKit Go.Lib in
theorem Tryz.cmp_Less_int2 (x y:Int) (w:World) :
    Calls Tryz.prog 134 #[.int .i64 x, .int .i64 y] w fun e w' =>e= .returned (.bool (decide (x<y)))/\w' =w:=Any.cmp_Less_int2 Tryz.laysNm231 x y w
def Tryz.laysNm225_ren:Go.Shelf.Ren:=⟨fun|25=>127|31=>134|32=>135|37=>138|n=>n,fun|22=>25|3=>3|4=>4|40=>158|0=>0|n=>n,fun|n=>n⟩
theorem Tryz.laysNm225:Go.Proofs.Lays2.n25 Tryz.prog Tryz.laysNm225_ren:={
  mixed:=by kernel_rfl
  f25:=Tryz.func127.trans (congrArg some (by kernel_rfl))
  f31:=Tryz.func134.trans (congrArg some (by kernel_rfl))
  f32:=Tryz.func135.trans (congrArg some (by kernel_rfl))
  f37:=Tryz.func138.trans (congrArg some (by kernel_rfl))
  t0:=Tryz.underlying0
  a0:=Tryz.isAgg0
  z0:=Tryz.sizeOf0
  v0:=Tryz.zeroValue0
  t3:=Tryz.underlying3
  a3:=Tryz.isAgg3
  z3:=Tryz.sizeOf3
  v3:=Tryz.zeroValue3
  t4:=Tryz.underlying4
  a4:=Tryz.isAgg4
  z4:=Tryz.sizeOf4
  v4:=Tryz.zeroValue4
  t22:=Tryz.underlying25
  a22:=Tryz.isAgg25
  z22:=Tryz.sizeOf25
  v22:=Tryz.zeroValue25
  t40:=Tryz.underlying158
  a40:=Tryz.isAgg158
  z40:=Tryz.sizeOf158
  v40:=Tryz.zeroValue158 }
open Go.RowKit Go.Lib in
theorem Tryz.slices_BinarySearch_int (b off n c:Nat) (zs:List Int) (x:Int) (w:World) (hz:n<=zs.length) (hbig:n<4611686018427387904) (hc:∀j,j<zs.length->w.cell? ⟨b,off+j,none⟩=some (.int .i64 (zs.getD j 0))) (hs:(zs.take n).Pairwise (· <= ·)) :
    Calls Tryz.prog 127 #[.slice (some ⟨b,off,none⟩) n c, .int .i64 x] w fun e w' =>e= .returned (.tuple #[.int .i64 ((zs.take n).countP (· < x):Nat), .bool ((zs.take n).contains x)])/\∃q,w' =w.drewN q:=Any.slices_BinarySearch_int Tryz.laysNm225 b off n c zs x w hz hbig hc hs
def Tryz.laysNm223_ren:Go.Shelf.Ren:=⟨fun|23=>129|n=>n,fun|22=>25|3=>3|4=>4|0=>0|n=>n,fun|n=>n⟩
theorem Tryz.laysNm223:Go.Proofs.Lays2.n23 Tryz.prog Tryz.laysNm223_ren:={
  mixed:=by kernel_rfl
  f23:=Tryz.func129.trans (congrArg some (by kernel_rfl))
  t0:=Tryz.underlying0
  a0:=Tryz.isAgg0
  z0:=Tryz.sizeOf0
  v0:=Tryz.zeroValue0
  t3:=Tryz.underlying3
  a3:=Tryz.isAgg3
  z3:=Tryz.sizeOf3
  v3:=Tryz.zeroValue3
  t4:=Tryz.underlying4
  a4:=Tryz.isAgg4
  z4:=Tryz.sizeOf4
  v4:=Tryz.zeroValue4
  t22:=Tryz.underlying25
  a22:=Tryz.isAgg25
  z22:=Tryz.sizeOf25
  v22:=Tryz.zeroValue25
  i3:=by kernel_rfl }
open Go.RowKit Go.Lib Go.Sort in
theorem Tryz.slices_Delete_int_arr (blk off cap i j:Nat) (d:Array Int) (w:World) (hH:Holds encI w blk off d) (hcap:d.size<=cap) (hm:cap<=9223372036854775807) (hij:i<=j) (hj:j<=d.size) :
    Calls Tryz.prog 129 #[.slice (some ⟨blk,off,none⟩) d.size cap, .int .i64 i, .int .i64 j] w fun e w' =>e= .returned (.slice (some ⟨blk,off,none⟩) (d.size-(j-i)) cap)/\∃q,w' =putRow encI (Sort.ahead w q) blk off (d.toList.take i++d.toList.drop j++List.replicate (j-i) 0).toArray:=Any.slices_Delete_int_arr Tryz.laysNm223 blk off cap i j d w hH hcap hm hij hj
open Go.RowKit Go.Lib Go.Sort in
theorem Tryz.slices_Delete_int (blk off cap i j:Nat) (zs:List Int) (w:World) (hH:Holds (Value.int .i64) w blk off zs.toArray) (hcap:zs.length<=cap) (hm:cap<=9223372036854775807) (hij:i<=j) (hj:j<=zs.length) :
    Calls Tryz.prog 129 #[.slice (some ⟨blk,off,none⟩) zs.length cap, .int .i64 i, .int .i64 j] w fun e w' =>e= .returned (.slice (some ⟨blk,off,none⟩) (zs.length-(j-i)) cap)/\∃q,w' =putRow (Value.int .i64) (Sort.ahead w q) blk off (zs.take i++zs.drop j++List.replicate (j-i) 0).toArray:=Any.slices_Delete_int Tryz.laysNm223 blk off cap i j zs w hH hcap hm hij hj
open Go.RowKit Go.Lib in
theorem Tryz.slices_BinarySearch_int_empty (a:Option Addr) (c:Nat) (x:Int) (w:World) :
    Calls Tryz.prog 127 #[.slice a 0 c, .int .i64 x] w fun e w' =>e= .returned (.tuple #[.int .i64 0, .bool false])/\w' =w:=Any.slices_BinarySearch_int_empty Tryz.laysNm225 a c x w
open Go.RowKit Go.Lib in
theorem Tryz.slices_Delete_int_empty (a:Option Addr) (c:Nat) (w:World) :
    Calls Tryz.prog 129 #[.slice a 0 c, .int .i64 0, .int .i64 0] w fun e w' =>e= .returned (.slice a 0 c)/\w' =w:=Any.slices_Delete_int_empty Tryz.laysNm223 a c w
def Tryz.laysNm221_ren:Go.Shelf.Ren:=⟨fun|21=>128|27=>136|28=>137|35=>139|39=>140|n=>n,fun|22=>25|3=>3|4=>4|0=>0|n=>n,fun|n=>n⟩
theorem Tryz.laysNm221:Go.Proofs.Lays2.n21 Tryz.prog Tryz.laysNm221_ren:={
  mixed:=by kernel_rfl
  f21:=Tryz.func128.trans (congrArg some (by kernel_rfl))
  f27:=Tryz.func136.trans (congrArg some (by kernel_rfl))
  f28:=Tryz.func137.trans (congrArg some (by kernel_rfl))
  f35:=Tryz.func139.trans (congrArg some (by kernel_rfl))
  f39:=Tryz.func140.trans (congrArg some (by kernel_rfl))
  t0:=Tryz.underlying0
  a0:=Tryz.isAgg0
  z0:=Tryz.sizeOf0
  v0:=Tryz.zeroValue0
  t3:=Tryz.underlying3
  a3:=Tryz.isAgg3
  z3:=Tryz.sizeOf3
  v3:=Tryz.zeroValue3
  t4:=Tryz.underlying4
  a4:=Tryz.isAgg4
  z4:=Tryz.sizeOf4
  v4:=Tryz.zeroValue4
  t22:=Tryz.underlying25
  a22:=Tryz.isAgg25
  z22:=Tryz.sizeOf25
  v22:=Tryz.zeroValue25
  i3:=by kernel_rfl }
open Go.RowKit Go.Lib in
theorem Tryz.slices_Insert_int_shift (b off n c i vb voff m vc:Nat) (cs vs:List Value) (w:World) (hi:i<n) (hm:0<m) (hroom:n+m<=c) (hc63:c<=9223372036854775807) (hvb:vb≠b)
    (hcl:cs.length=n) (hvl:vs.length=m)
    (hcs:∀j v,cs[j]? =some v->w.cell? ⟨b,off+j,none⟩=some v) (hsp:∀j,j<n+m->(w.cell? ⟨b,off+j,none⟩).isSome=true) (hfz:∀j,j<n+m->w.frozen? ⟨b,off+j,none⟩=false)
    (hvs:∀j v,vs[j]? =some v->w.cell? ⟨vb,voff+j,none⟩=some v) (h1c:∀v∈cs,v.oneCell' =true) (h1v:∀v∈vs,v.oneCell' =true)
    (tA tB:TypeId) (kA kB:Nat) (hsa:w.shape? vb=some (tA,kA)) (hsb:w.shape? b=some (tB,kB)) (hkB:kB≠0) (hfa:w.frozen? ⟨vb,voff,none⟩=false) (hfe:w.frozen? ⟨vb,kA,none⟩=false) :
    Calls Tryz.prog 128 #[.slice (some ⟨b,off,none⟩) n c, .int .i64 i, .slice (some ⟨vb,voff,none⟩) m vc] w fun e w'=>
      e= .returned (.slice (some ⟨b,off,none⟩) (n+m) c)/\w' =(w.drew.setCells b (off+(i+m)) (cs.drop i)).setCells b (off+i) vs:=Any2.slices_Insert_int_shift Tryz.laysNm221 b off n c i vb voff m vc cs vs w hi hm hroom hc63 hvb hcl hvl hcs hsp hfz hvs h1c h1v tA tB kA kB hsa hsb hkB hfa hfe
open Go.RowKit Go.Lib in
theorem Tryz.slices_Insert_int_end_room (b off n c vb voff m vc:Nat) (vs:List Value) (w:World) (hm:0<m) (hroom:n+m<=c) (hc63:c<=9223372036854775807)
    (hvl:vs.length=m) (hsp:∀j,j<m->(w.cell? ⟨b,off+n+j,none⟩).isSome=true) (hfz:∀j,j<m->w.frozen? ⟨b,off+n+j,none⟩=false)
    (hvs:∀j v,vs[j]? =some v->w.cell? ⟨vb,voff+j,none⟩=some v) (h1v:∀v∈vs,v.oneCell' =true) :
    Calls Tryz.prog 128 #[.slice (some ⟨b,off,none⟩) n c, .int .i64 n, .slice (some ⟨vb,voff,none⟩) m vc] w fun e w'=>
      e= .returned (.slice (some ⟨b,off,none⟩) (n+m) c)/\w' =w.setCells b (off+n) vs:=Any2.slices_Insert_int_end_room Tryz.laysNm221 b off n c vb voff m vc vs w hm hroom hc63 hvl hsp hfz hvs h1v
open Go.RowKit Go.Lib in
theorem Tryz.slices_Insert_int_end_grow (base:Option Addr) (n c vb voff m vc:Nat) (cs vs:List Value) (w:World) (hm:0<m) (hnc:n<=c) (hroom:c<n+m) (hbig:(n+m)*8<=140737488355328)
    (hcl:cs.length=n) (hvl:vs.length=m) (hnil:base=none->n=0)
    (hcs:∀a,base=some a->∀j v,cs[j]? =some v->w.cell? (a.add j)=some v)
    (hvs:∀j v,vs[j]? =some v->w.cell? ⟨vb,voff+j,none⟩=some v) (h1v:∀v∈vs,v.oneCell' =true) :
    Calls Tryz.prog 128 #[.slice base n c, .int .i64 n, .slice (some ⟨vb,voff,none⟩) m vc] w fun e w'=>
      e= .returned (.slice (some ⟨w.heap.size,0,none⟩) (n+m) (grownCap w (n+m) c 3))∧
      w' =w.drew.alloc (.cells ((cs++vs).toArray++Builtin.zeroCells (Value.int .i64 0).cells (grownCap w (n+m) c 3-(n+m))) 3):=Any2.slices_Insert_int_end_grow Tryz.laysNm221 base n c vb voff m vc cs vs w hm hnc hroom hbig hcl hvl hnil hcs hvs h1v
open Go.RowKit Go.Lib in
theorem Tryz.slices_Insert_int_grow (b off n c i vb voff m vc:Nat) (cs vs:List Value) (w:World) (hi:i<n) (hm:0<m) (hnc:n<=c) (hroom:c<n+m) (hbig:(n+m)*8<=140737488355328)
    (hcl:cs.length=n) (hvl:vs.length=m)
    (hcs:∀j v,cs[j]? =some v->w.cell? ⟨b,off+j,none⟩=some v)
    (hvs:∀j v,vs[j]? =some v->w.cell? ⟨vb,voff+j,none⟩=some v) (h1c:∀v∈cs,v.oneCell' =true) (h1v:∀v∈vs,v.oneCell' =true) :
    Calls Tryz.prog 128 #[.slice (some ⟨b,off,none⟩) n c, .int .i64 i, .slice (some ⟨vb,voff,none⟩) m vc] w fun e w'=>
      e= .returned (.slice (some ⟨w.heap.size,0,none⟩) (n+m) (grownCap w (n+m) c 3))∧
      w' =(((w.alloc (.cells ((cs.take i).toArray++Builtin.zeroCells (Value.int .i64 0).cells (n+m-i)++Builtin.zeroCells (Value.int .i64 0).cells (grownCap w (n+m) c 3-(n+m))) 3)).drew.setCells w.heap.size i vs).drew).setCells w.heap.size (i+m) (cs.drop i):=Any2.slices_Insert_int_grow Tryz.laysNm221 b off n c i vb voff m vc cs vs w hi hm hnc hroom hbig hcl hvl hcs hvs h1c h1v
end Go.Proofs
namespace Go.Proofs.YtnakaabnjelffaaGreat
section
open Go.RowKit

structure Chg (F:Nat->Prop) (w w' :World):Prop where
 os:w'.os=w.os
 tape:w'.tape=w.tape
 output:w'.output=w.output
 size:w.heap.size<=w'.heap.size
 block:∀k,k<w.heap.size->¬F k->w'.heap[k]? =w.heap[k]?

theorem Chg.refl (F:Nat->Prop) (w:World):Chg F w w:=⟨rfl,rfl,rfl,Nat.le_refl _,fun _ _ _=>rfl⟩
theorem Chg.trans {F G:Nat->Prop} {a b c:World} (h:Chg F a b) (k:Chg G b c) (hG:∀g,g<a.heap.size->G g->F g):Chg F a c:=
 ⟨k.os.trans h.os,k.tape.trans h.tape,k.output.trans h.output,Nat.le_trans h.size k.size,
  fun g hg hn=>(k.block g (Nat.lt_of_lt_of_le hg h.size) (fun e=>hn (hG g hg e))).trans (h.block g hg hn)⟩
theorem Chg.mono {F G:Nat->Prop} {a b:World} (h:Chg F a b) (hG:∀g,g<a.heap.size->F g->G g):Chg G a b:=
 ⟨h.os,h.tape,h.output,h.size,fun g hg hn=>h.block g hg (fun e=>hn (hG g hg e))⟩
theorem Chg.of_below {F:Nat->Prop} {a b:World} (h:Below a.heap.size a b):Chg F a b:=⟨h.os,h.tape,h.output,h.size,fun g hg _=>h.block g hg⟩
theorem Chg.below {F:Nat->Prop} {a b:World} {B:Nat} (h:Chg F a b) (hF:∀g,g<a.heap.size->F g->B<=g) (hB:B<=a.heap.size):Below B a b:=
 ⟨h.os,h.tape,h.output,h.size,fun g hg=>h.block g (Nat.lt_of_lt_of_le hg hB) (fun e=>by have:=hF g (Nat.lt_of_lt_of_le hg hB) e;omega)⟩
theorem Chg.alloc {F:Nat->Prop} {a b:World} (h:Chg F a b) (o:Obj):Chg F a (b.alloc o):=
 h.trans (Chg.of_below (F:=F) ((Below.refl _ _).alloc (Nat.le_refl _) o)) (fun _ _ e=>e)
theorem Chg.drew {F:Nat->Prop} {a b:World} (h:Chg F a b):Chg F a b.drew:=⟨h.os,h.tape,h.output,h.size,h.block⟩
theorem Chg.drewN {F:Nat->Prop} {a b:World} (h:Chg F a b) (n:Nat):Chg F a (b.drewN n):=
 h.trans (Chg.of_below (F:=F) (below_drewN (Below.refl _ _) n)) (fun _ _ e=>e)
theorem Chg.setCell {F:Nat->Prop} {a b:World} (h:Chg F a b) {p:Addr} (hp:p.block<a.heap.size->F p.block) (u:Value):Chg F a (b.setCell p u):=
 ⟨h.os,h.tape,h.output,by simpa using h.size,fun k hk hn=>(heap_setCell_other _ _ _ _ (fun e=>hn (by subst e;exact hp hk))).trans (h.block k hk hn)⟩
theorem Chg.setAt {F:Nat->Prop} {a b:World} (h:Chg F a b) (g j:Nat) (hg:F g) (u:Value):Chg F a (b.setCell ⟨g,j,none⟩ u):=h.setCell (p:=⟨g,j,none⟩) (fun _=>hg) u
theorem Chg.setCells {F:Nat->Prop} {a:World} {g:Nat} (hp:g<a.heap.size->F g):∀(vs:List Value) (o:Nat) (b:World),Chg F a b->Chg F a (b.setCells g o vs)
 |[],_,_,h=>h
 |v::r,o,_,h=>Chg.setCells hp r (o+1) _ (h.setCell (p:=⟨g,o,none⟩) hp v)

theorem AQ {F:Nat->Prop} {w w' :World} {base e size n:Nat} {v:Value} {xs:List Value} (h:w.ownsRow base e size v n xs) (hc:Chg F w w') (hF:∀g,v.ownBlock=some g->¬F g):w'.ownsRow base e size v n xs:=by
 obtain⟨hl,h|⟨g,cap,cur,rfl,hg,hh,hn,hcap,hsz,htake⟩⟩:=h
 ·exact⟨hl, .inl h⟩
 ·exact⟨hl, .inr ⟨g,cap,cur,rfl,hg,(hc.block g (Array.getElem?_eq_some_iff.1 hh).1 (hF g rfl)).trans hh,hn,hcap,hsz,htake⟩⟩
theorem Bf {F:Nat->Prop} {w w' :World} {b:Nat} {o:Obj} (h:w.heap[b]? =some o) (hc:Chg F w w') (hF:¬F b):w'.heap[b]? =some o:=
 (hc.block b (Array.getElem?_eq_some_iff.1 h).1 hF).trans h

def spl (cur:Array Value):Nat->List Value->Array Value
 |_,[]=>cur
 |o,v::r=>spl (cur.setIfInBounds o v) (o+1) r
theorem Fx (cur:Array Value):∀(vs:List Value) (o:Nat),(spl cur o vs).size=cur.size:=by
 intro vs;induction vs generalizing cur with
 |nil=>intro o;rfl
 |cons v r ih=>intro o;rw[spl,ih];simp
theorem DQ:∀(vs:List Value) (cur:Array Value) (o:Nat),o+vs.length<=cur.size->(spl cur o vs).toList=cur.toList.take o++vs++cur.toList.drop (o+vs.length)
 |[],cur,o,h=>by simp[spl]
 |v::r,cur,o,h=>by
  simp only[List.length_cons] at h
  rw[spl,DQ r _ (o+1) (by simp;omega)]
  have hlt:o<cur.toList.length:=by simp;omega
  have h1:(cur.setIfInBounds o v).toList=cur.toList.set o v:=Array.toList_setIfInBounds ..
  rw[h1,List.take_set,List.drop_set,if_pos (by omega),List.take_succ_eq_append_getElem hlt]
  rw[List.set_append_right _ _ (by simp;omega)]
  simp only[List.length_take,List.length_cons]
  rw[show o-min o cur.toList.length=0 by omega,show o+1+r.length=o+(r.length+1) by omega]
  simp
theorem Bv (g:Nat) (t:TypeId):∀(vs:List Value) (o:Nat) (w:World) (cur:Array Value),w.heap[g]? =some (.cells cur t (0,0))->(w.setCells g o vs).heap[g]? =some (.cells (spl cur o vs) t (0,0))
 |[],_,_,_,h=>h
 |v::r,o,w,cur,h=>by
  rw[World.setCells,spl]
  exact Bv g t r (o+1) _ _ (heap_setCell_same w g o cur t v h)

theorem QN (zs:List Int):∀v∈zs.map (Value.int .i64),v.oneCell' =true:=by
 intro v hv;obtain⟨z,_,rfl⟩:=List.mem_map.1 hv
 rfl

theorem Af {w:World} {g j:Nat} {cur:Array Value} {t:TypeId} (h:w.heap[g]? =some (.cells cur t (0,0))):w.cell? ⟨g,j,none⟩=cur[j]? :=cell_of_row w g j cur t (0,0) h
theorem AH {w:World} {g j:Nat} {cur:Array Value} {t:TypeId} (h:w.heap[g]? =some (.cells cur t (0,0))):w.frozen? ⟨g,j,none⟩=false:=frozen_of_row w g j cur t h

theorem Is {w:World} {g n cap:Nat} {t:TypeId} {cur:Array Value} {xs:List Value} (hh:w.heap[g]? =some (.cells cur t (0,0))) (hn:n<=cap) (hcap:cap<=maxLen) (hs:cur.size=cap) (ht:cur.toList.take n=xs) (hl:xs.length=n) :
  w.ownsRow 0 t 1 (.slice (some ⟨g,0,none⟩) n cap) n xs:=
 ⟨by omega, .inr ⟨g,cap,cur,rfl,Nat.zero_le _,hh,hn,hcap,by omega,by rw[Nat.mul_one];exact ht⟩⟩

theorem Gq {α :Type} {A B:List α} {n:Nat} (h:A.length=n):(A++B).take n=A:=by subst h;simp
theorem Sh {α :Type} {cur zs R:List α} {i n:Nat} (x: α) (hz:cur.take n=zs) (hl:zs.length=n) (hi:i<n) (hc:n+1<=cur.length) :
  ((cur.take (i+1)++zs.drop i++R).take i++[x]++(cur.take (i+1)++zs.drop i++R).drop (i+1)).take (n+1)=zs.take i++x::zs.drop i:=by
 have h1:(cur.take (i+1)).length=i+1:=by simp;omega
 have e1:(cur.take (i+1)++zs.drop i++R).take i=zs.take i:=by
  rw[List.append_assoc,List.take_append_of_le_length (by omega),List.take_take, ← hz,List.take_take,Nat.min_eq_left (by omega),Nat.min_eq_left (by omega)]
 have e2:(cur.take (i+1)++zs.drop i++R).drop (i+1)=zs.drop i++R:=by
  rw[List.append_assoc,List.drop_left' h1]
 rw[e1,e2, ← List.append_assoc,Gq (by simp;omega)]
 simp
theorem UJ {α :Type} {A zs R S:List α} {i n:Nat} (x: α) (ha:A=zs.take i) (hl:zs.length=n) (hi:i<n) :
  ((A++[x]++S).take (i+1)++zs.drop i++R).take (n+1)=zs.take i++x::zs.drop i:=by
 have h1:(A++[x]).length=i+1:=by rw[ha];simp;omega
 rw[Gq h1,Gq (by simp only[List.length_append,h1];simp;omega),ha]
 simp

theorem EZ (m:Nat):(Builtin.zeroCells (Value.int .i64 0).cells m).size=m:=by
 rw[size_zeroCells];simp[Value.cells]

theorem Mz (v:Value) (zs:List Int) (i:Nat) (x:Int) (vb:Nat) (w:World) (ho:w.ownsRow 0 3 1 v zs.length (zs.map (Value.int .i64)))
  (hvb:w.heap[vb]? =some (.cells #[.int .i64 x] 3 (0,0))) (hne:v.ownBlock≠some vb) (hi:i<=zs.length) (hbig:zs.length<=1099511627776) :
  Calls Tryz.prog 128 #[v, .int .i64 i, .slice (some ⟨vb,0,none⟩) 1 1] w fun e w'=>
   ∃v',e= .returned v' ∧w'.ownsRow 0 3 1 v' (zs.length+1) ((zs.take i++x::zs.drop i).map (Value.int .i64))/\Chg (fun g=>v.ownBlock=some g) w w' ∧(v'.ownBlock=v.ownBlock∨v'.ownBlock=some w.heap.size):=by
 have hvs:∀(j:Nat) (u:Value),[Value.int .i64 x][j]? =some u->w.cell? ⟨vb,0+j,none⟩=some u:=by
  intro j u hj;rw[Nat.zero_add,Af hvb]
  simpa using hj
 have h1v:∀u∈[Value.int .i64 x],u.oneCell' =true:=by intro u hu;simp at hu;subst hu;rfl
 obtain⟨hl,h|⟨g,cap,cur,rfl,hg,hh,hn,hcap,hsz,htake⟩⟩:=ho
 ·obtain⟨rfl,h0⟩:=h
  have hz:zs=[]:=List.length_eq_zero_iff.1 h0
  subst hz;have hi0:i=0:=by simpa using hi
  subst hi0;refine(Tryz.slices_Insert_int_end_grow none 0 0 vb 0 1 1 [] [.int .i64 x] w (by decide) (Nat.le_refl _) (by decide) (by decide) rfl rfl (fun _=>rfl) (fun a ha=>by cases ha) hvs h1v).mono ?_
  rintro e w' ⟨rfl,rfl⟩
  have hge:=grownCap_ge w (0+1) 0 3
  exact⟨_,rfl,Is (heap_alloc_new w.drew _) hge (grownCap_le_maxLen _ _ _ _ (by decide)) (by rw[Array.size_append,EZ];show 1+(grownCap w (0+1) 0 3-(0+1))=grownCap w (0+1) 0 3;omega) (by simp) (by simp),(Chg.refl _ _).drew.alloc _,Or.inr rfl⟩
 ·simp only[Nat.mul_one] at hsz htake
  have hcs:∀(j:Nat) (u:Value),(zs.map (Value.int .i64))[j]? =some u->w.cell? ⟨g,0+j,none⟩=some u:=by
   intro j u hj;rw[Nat.zero_add,Af hh, ← Array.getElem?_toList]
   rw[←htake] at hj
   have hjl:=(List.getElem?_eq_some_iff.1 hj).1
   rw[List.getElem?_take,if_pos (by simp at hjl;omega)] at hj
   exact hj
  have hgv:vb≠g:=fun e=>hne (by rw[e];rfl)
  unfold maxLen at hcap;by_cases hin:i=zs.length
  ·subst hin;by_cases hroom:zs.length+1<=cap
   ·refine(Tryz.slices_Insert_int_end_room g 0 zs.length cap vb 0 1 1 [.int .i64 x] w (by decide) hroom (by omega) rfl (fun j hj=>by rw[Af hh];simp;omega) (fun j hj=>AH hh) hvs h1v).mono ?_
    rintro e w' ⟨rfl,rfl⟩
    refine⟨_,rfl,Is (Bv g 3 _ _ w cur hh) hroom (by unfold maxLen;omega) (by rw[Fx];omega) ?_ (by simp),Chg.setCells (F:=fun k=>(Value.slice (some ⟨g,0,none⟩) zs.length cap).ownBlock=some k) (fun _=>rfl) _ _ _ (Chg.refl _ _),Or.inl rfl⟩
    rw[DQ _ _ _ (by simp;omega),Nat.zero_add,htake,Gq (by simp)]
    simp
   ·refine(Tryz.slices_Insert_int_end_grow (some ⟨g,0,none⟩) zs.length cap vb 0 1 1 (zs.map (Value.int .i64)) [.int .i64 x] w (by decide) hn (by omega) (by omega) (by simp) rfl (fun h=>by cases h) (fun a ha j u hj=>by
     cases ha;rw[Go.WideShapes.add_plain];exact hcs j u hj) hvs h1v).mono ?_
    rintro e w' ⟨rfl,rfl⟩
    have hge:=grownCap_ge w (zs.length+1) cap 3
    exact⟨_,rfl,Is (heap_alloc_new w.drew _) hge (grownCap_le_maxLen _ _ _ _ (by unfold maxLen;omega)) (by rw[Array.size_append,EZ];simp;omega) (by rw[Array.toList_append,List.toList_toArray,Gq (by simp)];simp) (by simp),(Chg.refl _ _).drew.alloc _,Or.inr rfl⟩
  ·have hlt:i<zs.length:=by omega
   by_cases hroom:zs.length+1<=cap
   ·refine(Tryz.slices_Insert_int_shift g 0 zs.length cap i vb 0 1 1 (zs.map (Value.int .i64)) [.int .i64 x] w hlt (by decide) hroom (by omega) hgv (by simp) rfl hcs (fun j hj=>by rw[Af hh];simp;omega) (fun j hj=>AH hh) hvs (QN _) h1v
     3 3 1 cap (by simp[World.shape?,hvb]) (by simp[World.shape?,hh,hsz]) (by omega) (AH hvb) (AH hvb)).mono ?_
    rintro e w' ⟨rfl,rfl⟩
    have h1:=Bv g 3 ((zs.map (Value.int .i64)).drop i) (0+(i+1)) w.drew cur hh
    have h2:=Bv g 3 [.int .i64 x] (0+i) _ _ h1
    refine⟨_,rfl,Is h2 hroom (by unfold maxLen;omega) (by rw[Fx,Fx];omega) ?_ (by simp;omega),Chg.setCells (F:=fun k=>(Value.slice (some ⟨g,0,none⟩) zs.length cap).ownBlock=some k) (fun _=>rfl) _ _ _ (Chg.setCells (F:=fun k=>(Value.slice (some ⟨g,0,none⟩) zs.length cap).ownBlock=some k) (fun _=>rfl) _ _ _ (Chg.refl _ _).drew),Or.inl rfl⟩
    rw[DQ _ _ _ (by rw[Fx];simp;omega),DQ _ _ _ (by simp;omega),Nat.zero_add,Nat.zero_add,List.length_singleton,Sh _ htake (by simp) hlt (by simp;omega)]
    simp
   ·refine(Tryz.slices_Insert_int_grow g 0 zs.length cap i vb 0 1 1 (zs.map (Value.int .i64)) [.int .i64 x] w hlt (by decide) hn (by omega) (by omega) (by simp) rfl hcs hvs (QN _) h1v).mono ?_
    rintro e w' ⟨rfl,rfl⟩
    have hge:=grownCap_ge w (zs.length+1) cap 3
    have hsize:(((zs.map (Value.int .i64)).take i).toArray++Builtin.zeroCells (Value.int .i64 0).cells (zs.length+1-i)++Builtin.zeroCells (Value.int .i64 0).cells (grownCap w (zs.length+1) cap 3-(zs.length+1))).size=grownCap w (zs.length+1) cap 3:=by
     rw[Array.size_append,Array.size_append,EZ,EZ];simp;omega
    have hlist:(((zs.map (Value.int .i64)).take i).toArray++Builtin.zeroCells (Value.int .i64 0).cells (zs.length+1-i)++Builtin.zeroCells (Value.int .i64 0).cells (grownCap w (zs.length+1) cap 3-(zs.length+1))).toList.take i=(zs.map (Value.int .i64)).take i:=by
     rw[Array.toList_append,Array.toList_append,List.toList_toArray,List.append_assoc,Gq (by simp;omega)]
    generalize ((zs.map (Value.int .i64)).take i).toArray++Builtin.zeroCells (Value.int .i64 0).cells (zs.length+1-i)++Builtin.zeroCells (Value.int .i64 0).cells (grownCap w (zs.length+1) cap 3-(zs.length+1))=A at hsize hlist ⊢
    have h0:=heap_alloc_new w (.cells A 3)
    have h1:((w.alloc (.cells A 3)).drew.setCells w.heap.size i [.int .i64 x]).drew.heap[w.heap.size]? =_:=Bv w.heap.size 3 [.int .i64 x] i (w.alloc (.cells A 3)).drew _ h0
    have h2:=Bv w.heap.size 3 ((zs.map (Value.int .i64)).drop i) (i+1) _ _ h1
    have hc:Chg (fun k=>(Value.slice (some ⟨g,0,none⟩) zs.length cap).ownBlock=some k) w (((w.alloc (.cells A 3)).drew.setCells w.heap.size i [.int .i64 x]).drew.setCells w.heap.size (i+1) ((zs.map (Value.int .i64)).drop i)):=
     Chg.setCells (fun h=>absurd h (Nat.lt_irrefl _)) _ _ _ (Chg.setCells (fun h=>absurd h (Nat.lt_irrefl _)) _ _ _ ((Chg.refl _ _).alloc _).drew).drew
    refine⟨_,rfl,Is h2 hge (grownCap_le_maxLen _ _ _ _ (by unfold maxLen;omega)) (by rw[Fx,Fx,hsize]) ?_ (by simp;omega),hc,Or.inr rfl⟩
    rw[DQ _ _ _ (by rw[Fx,hsize];simp;omega),DQ _ _ _ (by rw[hsize];simp;omega)]
    rw[UJ (n:=zs.length) _ hlist (by simp) hlt]
    simp
end
end Go.Proofs.YtnakaabnjelffaaGreat
