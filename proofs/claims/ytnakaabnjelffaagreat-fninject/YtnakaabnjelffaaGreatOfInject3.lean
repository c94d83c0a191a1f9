/-
  Trees of messages as plain data, and what it is that a struct's value leads to one.
  What chapter 2 says of trees, as plain functions.
  Contracts of MapOk, the model's and the program's.
  Contracts of the model's chapter 2: l2Leaf.
-/
import Derived.Test.YtnakaabnjelffaaGreatOfInject2
import Derived.Test.YtnakaabnjelffaaGreatOfInject1
namespace Go.Proofs.YtnakaabnjelffaaGreat
set_option maxRecDepth 100000
set_option maxHeartbeats 8000000
section
open Go.RowKit

structure Tr where
 leaf:Bool
 pairs:List (Int × Int)
 cuts:List Int
 kids:List Tr
 buf:ML

structure TV where
 lf:Bool
 p:Value
 c:Value
 k:Value
 b:Value

def TV.cells (x:TV):List Value:=[.bool x.lf,x.p,x.c,x.k,x.b]
abbrev TV.val (x:TV):Value:= .agg #[.bool x.lf,x.p,x.c,x.k,x.b]
def Ap (l:List TV):List Value:=l.flatMap TV.cells
def Ab (l:List Int):List Value:=l.map (.int .i64)

def Ah:Tr:=⟨true,[],[],[],[]⟩
def Y7:TV:=⟨false, .slice none 0 0, .slice none 0 0, .slice none 0 0, .slice none 0 0⟩
def AV (T:Tr) (i:Nat):Tr:=T.kids.getD i Ah
def Zm (T:Tr) (i:Nat):Int:=T.cuts.getD i 0
def iAt (l:List Int) (i:Nat):Int:=l.getD i 0
def Ay (l:List TV) (i:Nat):TV:=l.getD i Y7

theorem Bk (l:List Int):(Ab l).length=l.length:=by simp[Ab]
theorem Mc (l:List Int) (i:Nat) (h:i<l.length):(Ab l)[i]? =some (.int .i64 (iAt l i)):=by simp[Ab,iAt,List.getD,h]
theorem DA (x:TV) (l:List TV):Ap (x::l)= .bool x.lf::x.p::x.c::x.k::x.b::Ap l:=rfl
theorem E7 (l m:List TV):Ap (l++m)=Ap l++Ap m:=by simp[Ap,List.flatMap_append]
theorem Bj (l:List TV):(Ap l).length=l.length*5:=by
 induction l with
 |nil=>rfl
 |cons a l ih=>rw[DA];simp only[List.length_cons];omega
theorem Et (l:List TV):∀i,i<l.length->(Ap l)[i*5]? =some (.bool (Ay l i).lf)/\(Ap l)[i*5+1]? =some (Ay l i).p/\(Ap l)[i*5+2]? =some (Ay l i).c/\(Ap l)[i*5+3]? =some (Ay l i).k/\(Ap l)[i*5+4]? =some (Ay l i).b:=by
 induction l with
 |nil=>intro i h;simp at h
 |cons a l ih=>
  intro i h
  cases i with
  |zero=>simp[DA,Ay]
  |succ i=>
   have:=ih i (by simpa using h)
   rw[show(i+1)*5=i*5+1+1+1+1+1 by omega,DA]
   rw[show i*5+1+1+1+1+1+1=(i*5+1)+1+1+1+1+1 by omega,show i*5+1+1+1+1+1+2=(i*5+2)+1+1+1+1+1 by omega,show i*5+1+1+1+1+1+3=(i*5+3)+1+1+1+1+1 by omega,show i*5+1+1+1+1+1+4=(i*5+4)+1+1+1+1+1 by omega]
   simpa[Ay] using this
theorem Vp (l:List TV) (y:TV):∀i,i<l.length->(((((Ap l).set (i*5) (.bool y.lf)).set (i*5+1) y.p).set (i*5+2) y.c).set (i*5+3) y.k).set (i*5+4) y.b=Ap (l.set i y):=by
 induction l with
 |nil=>intro i h;simp at h
 |cons a l ih=>
  intro i h
  cases i with
  |zero=>simp[DA]
  |succ i=>
   have:=ih i (by simpa using h)
   rw[DA,List.set_cons_succ,DA,show(i+1)*5+4=(i*5+4)+1+1+1+1+1 by omega,show(i+1)*5+3=(i*5+3)+1+1+1+1+1 by omega,show(i+1)*5+2=(i*5+2)+1+1+1+1+1 by omega,show(i+1)*5+1=(i*5+1)+1+1+1+1+1 by omega,show(i+1)*5=i*5+1+1+1+1+1 by omega]
   simp only[List.set_cons_succ]
   rw[this]

theorem Row.ints {w:World} {v:Value} {l:List Int} (h:Row w v l.length (Ab l)) :
  ∃(a:Option Addr) (b off cap:Nat),v= .slice a l.length cap/\l.length<=cap/\cap<=maxLen/\(0<l.length->a=some ⟨b,off,none⟩)∧
   (∀i,i<l.length->w.cell? ⟨b,off+i,none⟩=some (.int .i64 (iAt l i))):=by
 obtain⟨a,b,off,cap,h1,h2,h3,h4,h5,_⟩:=h
 exact⟨a,b,off,cap,h1,h2,h3,h4,fun i hi=>h5 _ _ (Mc l i hi)⟩
theorem Row.trees {w:World} {v:Value} {l:List TV} (h:Row w v l.length (Ap l)) :
  ∃(a:Option Addr) (b off cap:Nat),v= .slice a l.length cap/\l.length<=cap/\cap<=maxLen/\(0<l.length->a=some ⟨b,off,none⟩)∧
   (∀i,i<l.length->w.cell? ⟨b,off+i*5,none⟩=some (.bool (Ay l i).lf))/\(∀i,i<l.length->w.cell? ⟨b,off+i*5+1,none⟩=some (Ay l i).p)/\(∀i,i<l.length->w.cell? ⟨b,off+i*5+2,none⟩=some (Ay l i).c)∧
   (∀i,i<l.length->w.cell? ⟨b,off+i*5+3,none⟩=some (Ay l i).k)/\(∀i,i<l.length->w.cell? ⟨b,off+i*5+4,none⟩=some (Ay l i).b):=by
 obtain⟨a,b,off,cap,h1,h2,h3,h4,h5,_⟩:=h
 exact⟨a,b,off,cap,h1,h2,h3,h4,fun i hi=>h5 _ _ (Et l i hi).1,fun i hi=>h5 _ _ (Et l i hi).2.1,fun i hi=>h5 _ _ (Et l i hi).2.2.1,fun i hi=>h5 _ _ (Et l i hi).2.2.2.1,fun i hi=>h5 _ _ (Et l i hi).2.2.2.2⟩
theorem Row.len {w:World} {v:Value} {n:Nat} {xs:List Value} (h:Row w v n xs):∃(a:Option Addr) (cap:Nat),v= .slice a n cap/\n<=maxLen:=by
 obtain⟨a,b,off,cap,h1,h2,h3,_⟩:=h
 exact⟨a,cap,h1,Nat.le_trans h2 h3⟩

def AO:Nat->World->TV->Tr->Prop
 |0,_,_,_=>False
 | n + 1, w, x, T => x.lf = T.leaf ∧ Row w x.p T.pairs.length (Au T.pairs) ∧ Row w x.c T.cuts.length (Ab T.cuts) ∧ Row w x.b T.buf.length (Al T.buf) ∧
   ∃xs:List TV,xs.length=T.kids.length/\Row w x.k xs.length (Ap xs)/\∀i,i<xs.length->AO n w (Ay xs i) (AV T i)

def Lv (n:Nat) (w:World) (v:Value) (ts:List Tr):Prop:=
 ∃xs:List TV,xs.length=ts.length/\Row w v xs.length (Ap xs)/\∀i,i<xs.length->AO n w (Ay xs i) (ts.getD i Ah)

theorem AO.below:∀ {n:Nat} {w w' :World} {x:TV} {T:Tr},AO n w x T->Below w.heap.size w w' ->AO n w' x T
 |0,_,_,_,_,h,_=>h
 |_+1,_,_,_,_,⟨h1,h2,h3,h4,xs,h5,h6,h7⟩,hb=>⟨h1,h2.below hb,h3.below hb,h4.below hb,xs,h5,h6.below hb,fun i hi=>(h7 i hi).below hb⟩
theorem AO.up:∀ {n:Nat} {w:World} {x:TV} {T:Tr},AO n w x T->AO (n+1) w x T
 |0,_,_,_,h=>h.elim
 |_+1,_,_,_,⟨h1,h2,h3,h4,xs,h5,h6,h7⟩=>⟨h1,h2,h3,h4,xs,h5,h6,fun i hi=>(h7 i hi).up⟩
theorem AO.le {n m:Nat} {w:World} {x:TV} {T:Tr} (h:AO n w x T) (hm:n<=m):AO m w x T:=by
 induction hm with
 |refl=>exact h
 |step _ ih=>exact ih.up
theorem AO.parts {n:Nat} {w:World} {x:TV} {T:Tr} (h:AO (n+1) w x T) :
  x.lf=T.leaf/\Row w x.p T.pairs.length (Au T.pairs)/\Row w x.c T.cuts.length (Ab T.cuts)/\Row w x.b T.buf.length (Al T.buf)/\Lv n w x.k T.kids:=by
 obtain⟨h1,h2,h3,h4,xs,h5,h6,h7⟩:=h
 exact⟨h1,h2,h3,h4,xs,h5,h6,h7⟩
def Az:Nat->Tr->Nat
 |0,_=>0
 |n+1,T=>T.pairs.length+(T.cuts.length+(T.kids.length+(T.kids.map (Az n)).sum+T.buf.length))
def Y8 (n:Nat) (ts:List Tr):Nat:=ts.length+(ts.map (Az n)).sum
def IJ (n:Nat) (ts:List Tr) (k:Nat):Nat:=((ts.take k).map (Az n)).sum
theorem LA (n:Nat) (ts:List Tr) (k:Nat) (h:k<ts.length):IJ n ts (k+1)=IJ n ts k+Az n (ts.getD k Ah):=by
 rw[IJ,IJ,List.take_succ_eq_append_getElem h,List.map_append,List.sum_append]
 simp[List.getD,h]
theorem VE (n:Nat) (ts:List Tr):IJ n ts ts.length=(ts.map (Az n)).sum:=by simp[IJ]
theorem Ws (n:Nat) (ts:List Tr):∀k,IJ n ts k<=(ts.map (Az n)).sum:=by
 intro k;have h:(ts.map (Az n)).sum=((ts.take k).map (Az n)).sum+((ts.drop k).map (Az n)).sum:=by
  rw[←List.sum_append, ← List.map_append,List.take_append_drop]
 rw[IJ,h]
 omega
theorem G8 {n:Nat} {T:Tr} {i:Nat} (hi:i<T.kids.length):Az n (AV T i)+T.kids.length<=Az (n+1) T:=by
 have h1:=Ws n T.kids (i+1)
 rw[LA n T.kids i hi] at h1
 show Az n (T.kids.getD i Ah)+_<=T.pairs.length+(T.cuts.length+(T.kids.length+(T.kids.map (Az n)).sum+T.buf.length))
 omega

def Zf (left:Int) (n:Nat):Int:=if (n:Int)<=left then left-n else -1
end
section
def NG (n:Nat) (f:Nat->Bool):Bool:=(List.range n).all f
theorem DF {n:Nat} {f:Nat->Bool} (h:∀i,i<n->f i=true):NG n f=true:=by
 simp only[NG,List.all_eq_true,List.mem_range];exact h
theorem Fo {n:Nat} {f:Nat->Bool} {i:Nat} (hi:i<n) (h:f i=false):NG n f=false:=by
 rw[Bool.eq_false_iff]
 intro hc;simp only[NG,List.all_eq_true,List.mem_range] at hc
 rw[hc i hi] at h
 cases h
theorem Fb {n:Nat} {f:Nat->Bool} (h:NG n f=true) {i:Nat} (hi:i<n):f i=true:=by
 simp only[NG,List.all_eq_true,List.mem_range] at h
 exact h i hi

def FM (T:Tr) (lo hi:Int) (i:Nat):Bool:=inB (kOf T.pairs i) lo (hi-1)
def GZ (T:Tr) (lo hi:Int):Bool:=NG T.pairs.length (FM T lo hi)
def Bt (T:Tr) (lo hi:Int):Bool:=Bo T.pairs&&(decide (T.pairs.length<=4)&&(decide (T.cuts.length+T.kids.length+T.buf.length=0)&&GZ T lo hi))
def Ex (T:Tr) (lo hi:Int) (i:Nat):Bool:=AK (mO T.buf i) (mK T.buf i) (mV T.buf i)&&(!(mO T.buf i==4)&&inB (mK T.buf i) lo (hi-1))
def Gi (T:Tr) (lo hi:Int):Bool:=NG T.buf.length (Ex T lo hi)
def CM (T:Tr) (lo:Int) (i:Nat):Int:=if i=0 then lo else iAt T.cuts (i-1)
def toT (T:Tr) (hi:Int) (i:Nat):Int:=if i<T.cuts.length then iAt T.cuts i else hi
def FV (T:Tr) (lo hi:Int) (i:Nat):Bool:=inB (iAt T.cuts i) (CM T lo i+1) (hi-1)
def Fu (T:Tr) (lo hi:Int):Bool:=NG T.cuts.length (FV T lo hi)
def El (T:Tr):Bool:=decide (T.pairs.length=0)&&(decide (2<=T.kids.length/\T.kids.length<=4)&&(decide (T.cuts.length+1=T.kids.length)&&decide (T.buf.length<=6)))
def BD (T:Tr) (lo hi:Int):Bool:=El T&&(Gi T lo hi&&Fu T lo hi)
def Ej (d:Nat->Nat) (n:Nat):Nat:=if (!(d 0==0)&&NG n fun i=>d i==d 0)=true then d 0+1 else 0
def AG:Nat->Tr->Int->Int->Nat
 |0,_,_,_=>0
 |m+1,T,lo,hi=>if T.leaf=true then (if Bt T lo hi=true then 1 else 0) else if BD T lo hi=true then Ej (fun i=>AG m (AV T i) (CM T lo i) (toT T hi i)) T.kids.length else 0
def Cu (m:Nat) (T:Tr) (lo hi:Int) (i:Nat):Nat:=AG m (AV T i) (CM T lo i) (toT T hi i)

theorem Cf {m:Nat} {T:Tr} {lo hi:Int} (h:T.leaf=true):AG (m+1) T lo hi=if Bt T lo hi=true then 1 else 0:=by rw[AG,if_pos h]
theorem KJ {m:Nat} {T:Tr} {lo hi:Int} (h:T.leaf=false) (hf:BD T lo hi=false):AG (m+1) T lo hi=0:=by
 rw[AG,if_neg (by rw[h];decide),if_neg (by rw[hf];decide)]
theorem CD {m:Nat} {T:Tr} {lo hi:Int} (h:T.leaf=false) (hf:BD T lo hi=true):AG (m+1) T lo hi=Ej (Cu m T lo hi) T.kids.length:=by
 rw[AG,if_neg (by rw[h];decide),if_pos hf];rfl
theorem Hl {d:Nat->Nat} {n i:Nat} (hi:i<n) (h:d i=0):Ej d n=0:=by
 rw[Ej,if_neg]
 intro hc;simp only[Bool.and_eq_true] at hc
 have:=Fb hc.2 hi
 simp only[beq_iff_eq] at this
 rw[h] at this
 rw[←this] at hc
 simp at hc
theorem G0 {d:Nat->Nat} {n i:Nat} (hi:i<n) (h:d i≠d 0):Ej d n=0:=by
 rw[Ej,if_neg]
 intro hc;simp only[Bool.and_eq_true] at hc
 have:=Fb hc.2 hi
 simp only[beq_iff_eq] at this
 exact h this
theorem Fi {d:Nat->Nat} {n:Nat} (h0:d 0≠0) (h:∀i,i<n->d i=d 0):Ej d n=d 0+1:=by
 rw[Ej,if_pos]
 simp only[Bool.and_eq_true]
 refine⟨by simpa using h0,DF fun i hi=>by simpa using h i hi⟩
theorem Wt {d:Nat->Nat} {n m:Nat} (h:∀i,d i<=m):Ej d n<=m+1:=by
 unfold Ej;split
 ·have:=h 0;omega
 ·omega
theorem G7:∀(m:Nat) (T:Tr) (lo hi:Int),AG m T lo hi<=m
 |0,_,_,_=>by simp[AG]
 |m+1,T,lo,hi=>by
  rw[AG]
  split
  ·split<;>omega
  ·split
   ·exact Wt fun i=>G7 m _ _ _
   ·omega

def Dm:Nat->Tr->Nat
 |0,_=>0
 |n+1,T=>T.pairs.length+(T.kids.map (Dm n)).sum
def DI:Nat->Tr->Nat
 |0,_=>0
 |n+1,T=>T.buf.length+(T.kids.map (DI n)).sum
def Gw (f:Tr->Nat) (ts:List Tr) (k:Nat):Nat:=((ts.take k).map f).sum
theorem OD (f:Tr->Nat) (ts:List Tr) (k:Nat) (h:k<ts.length):Gw f ts (k+1)=Gw f ts k+f (ts.getD k Ah):=by
 rw[Gw,Gw,List.take_succ_eq_append_getElem h,List.map_append,List.sum_append]
 simp[List.getD,h]
theorem Qn (f:Tr->Nat) (ts:List Tr):Gw f ts ts.length=(ts.map f).sum:=by simp[Gw]
theorem Ov (f:Tr->Nat) (ts:List Tr):Gw f ts 0=0:=by simp[Gw]
theorem Ue (f:Tr->Nat) (ts:List Tr):∀k,Gw f ts k<=(ts.map f).sum:=by
 intro k;have h:(ts.map f).sum=((ts.take k).map f).sum+((ts.drop k).map f).sum:=by
  rw[←List.sum_append, ← List.map_append,List.take_append_drop]
 rw[Gw,h]
 omega
theorem Gp {f g:Tr->Nat} (h:∀t,f t<=g t):∀ts:List Tr,(ts.map f).sum<=(ts.map g).sum
 |[]=>Nat.le_refl _
 |t::ts=>by
  have:=Gp h ts
  have:=h t
  simp only[List.map_cons,List.sum_cons]
  omega
theorem Of:∀(n:Nat) (T:Tr),Dm n T<=Az n T
 |0,_=>Nat.le_refl _
 |n+1,T=>by
  have:=Gp (Of n) T.kids
  rw[Dm,Az]
  omega
theorem Rd:∀(n:Nat) (T:Tr),DI n T<=Az n T
 |0,_=>Nat.le_refl _
 |n+1,T=>by
  have:=Gp (Rd n) T.kids
  rw[DI,Az]
  omega

def Zg (l:List Int) (k:Int):Nat:=(l.filter fun c=>decide (c<=k)).length

def Ag (T:Tr):Nat:=AG 7 T 0 1000
def okT (T:Tr):Bool:=decide (0<Ag T)
end
section
open Go.RowKit

theorem Kb {l:List (Int × Int)} {k:Nat} (h:inB (kOf l k) 0 999=false):FK l k=false:=by simp[FK,h]
theorem Jo {l:List (Int × Int)} {k:Nat} (h:inB (vOf l k) (-1000000000) 1000000000=false):FK l k=false:=by simp[FK,h]
theorem Oe {l:List (Int × Int)} (h:inB (kOf l 0) 0 999=true) (h' :inB (vOf l 0) (-1000000000) 1000000000=true):FK l 0=true:=by simp[FK,h,h']
theorem Oz {l:List (Int × Int)} {k:Nat} (h:inB (kOf l (k+1)) 0 999=true) (h' :inB (vOf l (k+1)) (-1000000000) 1000000000=true) (hlt:kOf l k<kOf l (k+1)):FK l (k+1)=true:=by simp[FK,h,h',hlt]
theorem IK {l:List (Int × Int)} {k:Nat} (hlt:kOf l (k+1)<=kOf l k):FK l (k+1)=false:=by
 have:¬kOf l k<kOf l (k+1):=by omega
 simp[FK,this]

theorem De (v:Value) (l:List (Int × Int)) (w:World) (h:Row w v l.length (Au l)) :
  Calls Tryz.prog 119 #[v] w fun e w' =>e= .returned (.bool (Bo l))/\Below w.heap.size w w' :=by
 obtain⟨a,b,off,cap,rfl,hcap,hmax,ha,hk,hv⟩:=h.pairs
 unfold maxLen at hmax;go_enter Tryz.func119,Tryz.ntmps119
 go_wp2;go_loopw [3] (fun i wr=>∃k:Nat,k<=l.length/\i= .int .i64 k/\(∀i,i<k->FK l i=true)/\Below w.heap.size w wr)
  (fun i _=>l.length-(intOf i).toNat)
 case atStart=>exact⟨0,Nat.zero_le _,rfl,fun i hi=>absurd hi (Nat.not_lt_zero _),Below.refl _ _⟩
 case round=>
  obtain⟨k,hkl,rfl,hall,hb⟩:=hrel
  have ALL:Hid (∀i,i<k->FK l i=true):=hall
  clear hall;by_cases hlt:k<l.length
  ·have hal:=ha (by omega)
   subst hal;have d0:wr.cell? ⟨b,off+k*2,none⟩=some (.int .i64 (kOf l k)):=(hb.cell (by exact Aa (hk k hlt))).trans (hk k hlt)
   have d1:wr.cell? ⟨b,off+k*2+1,none⟩=some (.int .i64 (vOf l k)):=(hb.cell (by exact Aa (hv k hlt))).trans (hv k hlt)
   cases hK:inB (kOf l k) 0 999
   ·have NE:Hid (Bo l=false):=D7 hlt (Kb hK)
    clear hk hv;go_wp2_with fail;go_quiet ((go_at_call 55;exact Calls.quiet_of_same (Cp _ _ _ _)))
    go_wp2;go_ret;exact⟨AS NE.out.symm,below_drewN hb _⟩
   ·cases hV:inB (vOf l k) (-1000000000) 1000000000
    ·have NE:Hid (Bo l=false):=D7 hlt (Jo hV)
     clear hk hv;go_wp2_with fail;go_quiet (first|(go_at_call 55;exact Calls.quiet_of_same (Cp _ _ _ _))|(go_at_call 56;exact Calls.quiet_of_same (FG _ _)))
     go_wp2;go_ret;exact⟨AS NE.out.symm,below_drewN hb _⟩
    ·cases k with
     |zero=>
      have OK:Hid (FK l 0=true):=Oe hK hV
      simp only[Nat.zero_mul,Nat.add_zero] at d0 d1
      clear hk hv;go_wp2_with fail;go_quiet (first|(go_at_call 55;exact Calls.quiet_of_same (Cp _ _ _ _))|(go_at_call 56;exact Calls.quiet_of_same (FG _ _)))
      go_wp2;go_roundw
      case rel=>exact⟨1,by omega,by go_num,fun i hi=>by rw[show i=0 by omega];exact OK.out,below_drewN hb _⟩
      case measure=>simp[intOf];omega
     |succ k=>
      have hpos:(0:Int)<((k+1:Nat):Int):=by omega
      have d2:wr.cell? ⟨b,off+k*2,none⟩=some (.int .i64 (kOf l k)):=(hb.cell (by exact Aa (hk k (by omega)))).trans (hk k (by omega))
      clear hk hv;by_cases hord:kOf l k<kOf l (k+1)
      ·have OK:Hid (FK l (k+1)=true):=Oz hK hV hord
       go_wp2_with fail;go_quiet (first|(go_at_call 55;exact Calls.quiet_of_same (Cp _ _ _ _))|(go_at_call 56;exact Calls.quiet_of_same (FG _ _)))
       go_wp2;go_roundw
       case rel=>exact⟨k+1+1,by omega,by go_num,fun i hi=>if h:i<k+1 then ALL.out i h else by rw[show i=k+1 by omega];exact OK.out,below_drewN hb _⟩
       case measure=>simp[intOf];omega
      ·have NE:Hid (Bo l=false):=D7 hlt (IK (by omega))
       go_wp2_with fail;go_quiet (first|(go_at_call 55;exact Calls.quiet_of_same (Cp _ _ _ _))|(go_at_call 56;exact Calls.quiet_of_same (FG _ _)))
       go_wp2;go_ret;exact⟨AS NE.out.symm,below_drewN hb _⟩
  ·go_wp2;go_ret;exact⟨AS (Ia (fun i hi=>ALL.out i (by omega))).symm,hb⟩

theorem GI (v:Value) (l:List (Int × Int)) (w:World) (h:Row w v l.length (Au l)) :
  Calls Tryz.prog 82 #[v] w fun e w' =>e= .returned (.bool (Bo l))/\Below w.heap.size w w' :=by
 obtain⟨a,b,off,cap,rfl,hcap,hmax,ha,hk,hv⟩:=h.pairs
 unfold maxLen at hmax;go_enter Tryz.func82,Tryz.ntmps82
 go_wp2;go_loopw [7] (fun i wr=>∃k:Nat,k<=l.length/\i= .int .i64 k/\(∀i,i<k->FK l i=true)/\Below w.heap.size w wr)
  (fun i _=>l.length-(intOf i).toNat)
 case atStart=>exact⟨0,Nat.zero_le _,rfl,fun i hi=>absurd hi (Nat.not_lt_zero _),Below.refl _ _⟩
 case round=>
  obtain⟨k,hkl,rfl,hall,hb⟩:=hrel
  have ALL:Hid (∀i,i<k->FK l i=true):=hall
  clear hall;by_cases hlt:k<l.length
  ·have hal:=ha (by omega)
   subst hal;have hbl:=Aa (hk k hlt)
   have d0:wr.cell? ⟨b,off+k*2,none⟩=some (.int .i64 (kOf l k)):=(hb.cell (by exact hbl)).trans (hk k hlt)
   have d1:wr.cell? ⟨b,off+k*2+1,none⟩=some (.int .i64 (vOf l k)):=(hb.cell (by exact hbl)).trans (hv k hlt)
   have hb' :∀o,Below w.heap.size w (wr.alloc o):=fun o=>hb.alloc hb.size o
   cases hK:inB (kOf l k) 0 999
   ·have NE:Hid (Bo l=false):=D7 hlt (Kb hK)
    clear hk hv;go_wp2_with (go_at_call 46;refine(D8 _ _).mono ?_;rintro e w' ⟨rfl,rfl⟩)
    go_ret;exact⟨AS NE.out.symm,hb' _⟩
   ·cases hV:inB (vOf l k) (-1000000000) 1000000000
    ·have NE:Hid (Bo l=false):=D7 hlt (Jo hV)
     clear hk hv;go_wp2_with (first|(go_at_call 46;refine(D8 _ _).mono ?_;rintro e w' ⟨rfl,rfl⟩)|(go_at_call 47;refine(Ds _ _).mono ?_;rintro e w' ⟨rfl,rfl⟩))
     go_ret;exact⟨AS NE.out.symm,hb' _⟩
    ·cases k with
     |zero=>
      have OK:Hid (FK l 0=true):=Oe hK hV
      simp only[Nat.zero_mul,Nat.add_zero] at d0 d1
      clear hk hv;go_wp2_with (first|(go_at_call 46;refine(D8 _ _).mono ?_;rintro e w' ⟨rfl,rfl⟩)|(go_at_call 47;refine(Ds _ _).mono ?_;rintro e w' ⟨rfl,rfl⟩))
      go_quiet (fail)
      go_wp2;go_roundw
      case rel=>exact⟨1,by omega,by go_num,fun i hi=>by rw[show i=0 by omega];exact OK.out,below_drewN (hb' _) _⟩
      case measure=>simp[intOf];omega
     |succ k=>
      have hpos:(0:Int)<((k+1:Nat):Int):=by omega
      have hwk:IntKind.i64.wrap (k:Int)=(k:Int):=by rw[IntKind.wrap_i64];omega
      have hkb:(k:Int)<(l.length:Int):=by omega
      have hbr:b<wr.heap.size:=Nat.lt_of_lt_of_le hbl hb.size
      have hbn:¬b=wr.heap.size:=by omega
      have d2:wr.cell? ⟨b,off+k*2,none⟩=some (.int .i64 (kOf l k)):=(hb.cell (by exact hbl)).trans (hk k (by omega))
      have d2' :∀o,(wr.alloc o).cell? ⟨b,off+k*2,none⟩=some (.int .i64 (kOf l k)):=fun o=>(((Below.refl _ _).alloc (Nat.le_refl _) o).cell (p:=⟨b,off+k*2,none⟩) hbr).trans d2
      clear hk hv;by_cases hord:kOf l k<kOf l (k+1)
      ·have OK:Hid (FK l (k+1)=true):=Oz hK hV hord
       go_wp2_with (first|(go_at_call 46;refine(D8 _ _).mono ?_;rintro e w' ⟨rfl,rfl⟩)|(go_at_call 47;refine(Ds _ _).mono ?_;rintro e w' ⟨rfl,rfl⟩))
       go_quiet (fail)
       go_wp2;go_roundw
       case rel=>exact⟨k+1+1,by omega,by go_num,fun i hi=>if h:i<k+1 then ALL.out i h else by rw[show i=k+1 by omega];exact OK.out,below_drewN (hb' _) _⟩
       case measure=>simp[intOf];omega
      ·have NE:Hid (Bo l=false):=D7 hlt (IK (by omega))
       go_wp2_with (first|(go_at_call 46;refine(D8 _ _).mono ?_;rintro e w' ⟨rfl,rfl⟩)|(go_at_call 47;refine(Ds _ _).mono ?_;rintro e w' ⟨rfl,rfl⟩))
       go_quiet (fail)
       go_wp2;go_ret;exact⟨AS NE.out.symm,below_drewN (hb' _) _⟩
  ·go_wp2;go_ret;exact⟨AS (Ia (fun i hi=>ALL.out i (by omega))).symm,hb⟩
end
section
open Go.RowKit

def Ao (u:World) (B:Nat) (A:Array Value):Prop:=u.heap[B]? =some (.cells A 29 (0,0))
theorem Ao.step {u w' :World} {B:Nat} {A:Array Value} (h:Ao u B A) (hb:Below u.heap.size u w'):Ao w' B A:=
 (hb.block _ (Array.getElem?_eq_some_iff.1 h).1).trans h
theorem Ao.cells {u:World} {B:Nat} {A:Array Value} (h:Ao u B A):∀j,u.cell? ⟨B,j,none⟩=A[j]? :=fun j=>cell_of_row u B j A 29 (0,0) h
theorem Ao.start (w:World) (A:Array Value):Ao (w.alloc (.cells A 29)) w.heap.size A:=heap_alloc_new w _
theorem Fs (w:World) (A:Array Value):Below w.heap.size w (w.alloc (.cells A 29)):=(Below.refl _ _).alloc (Nat.le_refl _) _

theorem Lv.len {n:Nat} {w:World} {v:Value} {ts:List Tr} (h:Lv n w v ts):∃(a:Option Addr) (cap:Nat),v= .slice a ts.length cap/\ts.length<=maxLen:=by
 obtain⟨xs,hl,hr,_⟩:=h
 obtain⟨a,q,e,m⟩:=hr.len
 rw[hl] at e m
 exact⟨a,q,e,m⟩

theorem WX {T:Tr} {lo hi:Int} (h:Bo T.pairs=false):Bt T lo hi=false:=by simp[Bt,h]
theorem Wo {T:Tr} {lo hi:Int} (h:¬T.pairs.length<=4):Bt T lo hi=false:=by
 rw[Bt,decide_eq_false h];simp
theorem QP {T:Tr} {lo hi:Int} (h:¬T.cuts.length+T.kids.length+T.buf.length=0):Bt T lo hi=false:=by
 rw[Bt,decide_eq_false h];simp
theorem WV {T:Tr} {lo hi:Int} {i:Nat} (hi' :i<T.pairs.length) (h:FM T lo hi i=false):Bt T lo hi=false:=by
 rw[Bt,GZ,Fo hi' h];simp
theorem WU {T:Tr} {lo hi:Int} (h1:Bo T.pairs=true) (h2:T.pairs.length<=4) (h3:T.cuts.length+T.kids.length+T.buf.length=0) (h4:∀i,i<T.pairs.length->FM T lo hi i=true):Bt T lo hi=true:=by
 rw[Bt,h1,decide_eq_true h2,decide_eq_true h3,GZ,DF h4];rfl

def Lg (T:Tr) (lo hi:Int):Int:=if Bt T lo hi=true then 1 else 0
theorem JL {T:Tr} {lo hi:Int} (h:Bt T lo hi=false):Lg T lo hi=0:=by simp[Lg,h]
theorem U8 {T:Tr} {lo hi:Int} (h:Bt T lo hi=true):Lg T lo hi=1:=by simp[Lg,h]

theorem Se (n:Nat) (x:TV) (T:Tr) (lo hi:Int) (w:World) (ht:AO n w x T) (hsz:Az n T<=1099511627776) (hh0:0<=hi) (hh1:hi<=1000) :
  Calls Tryz.prog 101 #[x.val, .int .i64 lo, .int .i64 hi] w fun e w' =>e= .returned (.int .i64 (Lg T lo hi))/\Below w.heap.size w w' :=by
 cases n with
 |zero=>exact ht.elim
 |succ n=>
 obtain⟨lf,p,c,k,b⟩:=x
 obtain⟨hlf,hp,hc,hb,hk⟩:=ht.parts
 simp only at hlf hp hc hb hk
 obtain⟨a2,q2,rfl,m2⟩:=hc.len
 obtain⟨a3,q3,rfl,m3⟩:=hk.len
 obtain⟨a4,q4,rfl,m4⟩:=hb.len
 obtain⟨a,bb,off,cap,rfl,hcap,hmax,ha,ck,cv⟩:=hp.pairs
 have R1:Hid (Row w (.slice a T.pairs.length cap) T.pairs.length (Au T.pairs)):=hp
 unfold maxLen at hmax;clear m2 m3 m4;have hS:Az (n+1) T=T.pairs.length+(T.cuts.length+(T.kids.length+(T.kids.map (Az n)).sum+T.buf.length)):=rfl
 have m2:T.cuts.length<=1099511627776:=by omega
 have m3:T.kids.length<=1099511627776:=by omega
 have m4:T.buf.length<=1099511627776:=by omega
 clear hS hsz;clear ht hp hc hb hk hlf;show Calls Tryz.prog 101 #[.agg #[.bool lf, .slice a T.pairs.length cap, .slice a2 T.cuts.length q2, .slice a3 T.kids.length q3, .slice a4 T.buf.length q4], .int .i64 lo, .int .i64 hi] w _
 have B0:Hid _:=Fs w #[.bool lf, .slice a T.pairs.length cap, .slice a2 T.cuts.length q2, .slice a3 T.kids.length q3, .slice a4 T.buf.length q4]
 have S0:Hid (Ao _ w.heap.size _):=Ao.start w #[.bool lf, .slice a T.pairs.length cap, .slice a2 T.cuts.length q2, .slice a3 T.kids.length q3, .slice a4 T.buf.length q4]
 cases hmo:Bo T.pairs
 ·have E:Hid (Bt T lo hi=false):=WX hmo
  go_enter Tryz.func101,Tryz.ntmps101
  go_wp2_with fail;refine(De _ _ _ (R1.out.below B0.out)).mono ?_
  rintro e w1 ⟨he,hb1⟩
  rw[hmo] at he
  subst he;have B1:Hid (Below w.heap.size w w1):=Below.and B0.out hb1
  clear B0 S0 hb1;go_wp2;go_ret;exact⟨Bq (JL E.out).symm,B1.out⟩
 ·by_cases h4:T.pairs.length<=4
  ·by_cases h0:T.cuts.length+T.kids.length+T.buf.length=0
   ·have z2:T.cuts.length=0:=by omega
    have z3:T.kids.length=0:=by omega
    have z4:T.buf.length=0:=by omega
    have YES:Hid ((∀i,i<T.pairs.length->FM T lo hi i=true)->Bt T lo hi=true):=fun h=>WU hmo h4 (by omega) h
    rw[z2,z3,z4] at B0 S0 ⊢
    clear z2 z3 z4 h0;go_enter Tryz.func101,Tryz.ntmps101
    go_wp2_with fail;refine(De _ _ _ (R1.out.below B0.out)).mono ?_
    rintro e w1 ⟨he,hb1⟩
    rw[hmo] at he
    subst he;have B1:Hid (Below w.heap.size w w1):=Below.and B0.out hb1
    have S1:Hid (Ao w1 w.heap.size #[.bool lf, .slice a T.pairs.length cap, .slice a2 0 q2, .slice a3 0 q3, .slice a4 0 q4]):=S0.out.step hb1
    have k0:=S1.out.cells
    clear B0 S0 hb1;go_wp2;go_loopw [7] (fun i wr=>∃k:Nat,k<=T.pairs.length/\i= .int .i64 k/\wr=w1/\Hid (∀i,i<k->FM T lo hi i=true))
     (fun i _=>T.pairs.length-(intOf i).toNat)
    case atStart=>exact⟨0,Nat.zero_le _,rfl,rfl,fun i hi=>absurd hi (Nat.not_lt_zero _)⟩
    case round=>
     obtain⟨k,hkl,rfl,rfl,ALL⟩:=hrel
     by_cases hlt:k<T.pairs.length
     ·have hal:=ha (by omega)
      subst hal;have d0:=(B1.out.cell (by exact Aa (ck k hlt))).trans (ck k hlt)
      clear ck cv ha
      cases hq:inB (kOf T.pairs k) lo (hi-1)
      ·have NO:Hid (Bt T lo hi=false):=WV hlt hq
       go_wp2_with (go_at_call 55;refine(Cp _ _ _ _).mono ?_;rintro e w' ⟨rfl,rfl⟩)
       go_ret;exact⟨Bq (JL NO.out).symm,B1.out⟩
      ·have YS:Hid (FM T lo hi k=true):=hq
       go_wp2_with (go_at_call 55;refine(Cp _ _ _ _).mono ?_;rintro e w' ⟨rfl,rfl⟩)
       go_roundw
       case rel=>exact⟨k+1,by omega,by go_num,trivial,fun i hi=>if h:i<k then ALL.out i h else by rw[show i=k by omega];exact YS.out⟩
       case measure=>simp[intOf];omega
     ·clear ck cv ha;go_wp2;go_ret;exact⟨Bq (U8 (YES.out (fun i hi=>ALL.out i (by omega)))).symm,B1.out⟩
   ·have E:Hid (Bt T lo hi=false):=QP (by omega)
    have hpos:(0:Int)<(T.cuts.length:Int)+(T.kids.length:Int)+(T.buf.length:Int):=by omega
    clear h0;go_enter Tryz.func101,Tryz.ntmps101
    go_wp2_with fail;refine(De _ _ _ (R1.out.below B0.out)).mono ?_
    rintro e w1 ⟨he,hb1⟩
    rw[hmo] at he
    subst he;have B1:Hid (Below w.heap.size w w1):=Below.and B0.out hb1
    have S1:Hid (Ao w1 w.heap.size #[.bool lf, .slice a T.pairs.length cap, .slice a2 T.cuts.length q2, .slice a3 T.kids.length q3, .slice a4 T.buf.length q4]):=S0.out.step hb1
    have k0:=S1.out.cells
    clear B0 S0 hb1;go_wp2;go_ret;exact⟨Bq (JL E.out).symm,B1.out⟩
  ·have E:Hid (Bt T lo hi=false):=Wo h4
   have h4' :(4:Int)<(T.pairs.length:Int):=by omega
   clear h4;go_enter Tryz.func101,Tryz.ntmps101
   go_wp2_with fail;refine(De _ _ _ (R1.out.below B0.out)).mono ?_
   rintro e w1 ⟨he,hb1⟩
   rw[hmo] at he
   subst he;have B1:Hid (Below w.heap.size w w1):=Below.and B0.out hb1
   have S1:Hid (Ao w1 w.heap.size #[.bool lf, .slice a T.pairs.length cap, .slice a2 T.cuts.length q2, .slice a3 T.kids.length q3, .slice a4 T.buf.length q4]):=S0.out.step hb1
   have k0:=S1.out.cells
   clear B0 S0 hb1;go_wp2;go_ret;exact⟨Bq (JL E.out).symm,B1.out⟩
end
end Go.Proofs.YtnakaabnjelffaaGreat
