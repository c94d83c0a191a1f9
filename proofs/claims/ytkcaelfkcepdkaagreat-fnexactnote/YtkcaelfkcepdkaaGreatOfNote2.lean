/-
  Lists of messages as rows of cells; the laws' own functions on them.
  Lists of what was done last as rows of cells; the laws' own functions on them, and slices.Equal of two.
  Boxes: a variable's block, framed.
  Trees of messages as plain data, and what it is that a struct's value leads to one.
-/
import Derived.Test.YtkcaelfkcepdkaaGreatOfNote1
namespace Go.Proofs.YtkcaelfkcepdkaaGreat
set_option maxRecDepth 100000
set_option maxHeartbeats 8000000
section
open Go.RowKit

abbrev ML:=List (Int × Int × Int)
def mO (l:ML) (i:Nat):Int:=(l.getD i (0,0,0)).1
def mK (l:ML) (i:Nat):Int:=(l.getD i (0,0,0)).2.1
def mV (l:ML) (i:Nat):Int:=(l.getD i (0,0,0)).2.2
theorem QW (l:ML) (i:Nat) (h:i<l.length):l[i]=(mO l i,mK l i,mV l i):=by simp[mO,mK,mV,List.getD,h]
theorem St {l1 l2:ML} (hl:l1.length=l2.length) (h:∀i,i<l1.length->mO l1 i=mO l2 i/\mK l1 i=mK l2 i/\mV l1 i=mV l2 i):l1=l2:=by
 apply List.ext_getElem hl
 intro i h1 h2;rw[QW l1 i h1,QW l2 i h2,(h i h1).1,(h i h1).2.1,(h i h1).2.2]
theorem NU (l:ML) (k:Nat) (hk:k<l.length):l.take (k+1)=l.take k++[(mO l k,mK l k,mV l k)]:=by
 rw[List.take_succ_eq_append_getElem hk,QW l k hk]

def AW (l:ML):List Value:=l.flatMap fun m=>[.int .i64 m.1, .int .i64 m.2.1, .int .i64 m.2.2]
theorem CA (m:Int × Int × Int) (l:ML):AW (m::l)= .int .i64 m.1:: .int .i64 m.2.1:: .int .i64 m.2.2::AW l:=rfl
theorem EP (l:ML):(AW l).length=l.length*3:=by
 induction l with
 |nil=>rfl
 |cons a l ih=>rw[CA];simp only[List.length_cons];omega
theorem Ev (l:ML):∀i,i<l.length->(AW l)[i*3]? =some (.int .i64 (mO l i))/\(AW l)[i*3+1]? =some (.int .i64 (mK l i))/\(AW l)[i*3+2]? =some (.int .i64 (mV l i)):=by
 induction l with
 |nil=>intro i h;simp at h
 |cons a l ih=>
  intro i h
  cases i with
  |zero=>simp[CA,mO,mK,mV]
  |succ i=>
   have:=ih i (by simpa using h)
   have e1:(i+1)*3=i*3+1+1+1:=by omega
   have e2:(i+1)*3+1=(i*3+1)+1+1+1:=by omega
   have e3:(i+1)*3+2=(i*3+2)+1+1+1:=by omega
   rw[e3,e2,e1,CA]
   simpa[mO,mK,mV] using this
theorem Jp (l:ML) (a b c:Int):∀i,i<l.length->(((AW l).set (i*3) (.int .i64 a)).set (i*3+1) (.int .i64 b)).set (i*3+2) (.int .i64 c)=AW (l.set i (a,b,c)):=by
 induction l with
 |nil=>intro i h;simp at h
 |cons p l ih=>
  intro i h
  cases i with
  |zero=>simp[CA]
  |succ i=>
   have:=ih i (by simpa using h)
   rw[CA,List.set_cons_succ,CA,show(i+1)*3+2=(i*3+2)+1+1+1 by omega,show(i+1)*3=i*3+1+1+1 by omega]
   simp only[List.set_cons_succ]
   rw[this]

theorem Row.msgs {w:World} {v:Value} {l:ML} (h:Row w v l.length (AW l)) :
  ∃(a:Option Addr) (b off cap:Nat),v= .slice a l.length cap/\l.length<=cap/\cap<=maxLen/\(0<l.length->a=some ⟨b,off,none⟩)∧
   (∀i,i<l.length->w.cell? ⟨b,off+i*3,none⟩=some (.int .i64 (mO l i)))/\(∀i,i<l.length->w.cell? ⟨b,off+i*3+1,none⟩=some (.int .i64 (mK l i)))/\(∀i,i<l.length->w.cell? ⟨b,off+i*3+2,none⟩=some (.int .i64 (mV l i))):=by
 obtain⟨a,b,off,cap,h1,h2,h3,h4,h5,_⟩:=h
 exact⟨a,b,off,cap,h1,h2,h3,h4,fun i hi=>h5 _ _ (Ev l i hi).1,fun i hi=>h5 _ _ (Ev l i hi).2.1,fun i hi=>h5 _ _ (Ev l i hi).2.2⟩

theorem Na (a:Option Addr) (n cap:Nat) (left:Int) (hn:n<=maxLen) (hl:0<=left) (hl2:left<=1048576) (w:World) :
  Calls Tryz.prog 117 #[.slice a n cap, .int .i64 left] w fun e w' =>e= .returned (.int .i64 (if (n:Int)<=left then left-n else -1))/\w' =w:=by
 unfold maxLen at hn;by_cases h:(n:Int)<=left
 ·go_enter Tryz.func117,Tryz.ntmps117
  go_wp2;go_ret;exact⟨rfl,rfl⟩
 ·go_enter Tryz.func117,Tryz.ntmps117
  go_wp2;go_ret;exact⟨rfl,rfl⟩

def Ep (a b c a' b' c' :Int):Bool:=decide (a=a' ∧b=b' ∧c=c')
theorem Mh {a b c d e f:Int} (h:Ep a b c d e f=true):a=d/\b=e/\c=f:=by simpa[Ep] using h
theorem Kf {l1 l2:ML} {k:Nat} (h:Ep (mO l1 k) (mK l1 k) (mV l1 k) (mO l2 k) (mK l2 k) (mV l2 k)=false):l1≠l2:=by
 intro e;subst e;simp[Ep] at h

theorem Hp (a b c d e f:Int) (w:World) :
  Calls Tryz.prog 113 #[.agg #[.int .i64 a, .int .i64 b, .int .i64 c], .agg #[.int .i64 d, .int .i64 e, .int .i64 f]] w fun r w' =>r= .returned (.bool (Ep a b c d e f))/\Below w.heap.size w w' :=by
 go_enter Tryz.func113,Tryz.ntmps113
 go_wp2
 all_goals (go_ret;refine⟨Ay ?_,((Below.refl _ _).alloc (Nat.le_refl _) _).alloc (by simp) _⟩;simp_all[Ep])

theorem Nn (v1 v2:Value) (l1 l2:ML) (w:World) (h1:Row w v1 l1.length (AW l1)) (h2:Row w v2 l2.length (AW l2)) :
  Calls Tryz.prog 125 #[v1,v2] w fun e w' =>e= .returned (.bool (decide (l1=l2)))/\Below w.heap.size w w' :=by
 obtain⟨a,b,off,cap,rfl,hcap,hmax,ha,ho,hk,hv⟩:=h1.msgs
 obtain⟨a2,b2,off2,cap2,rfl,hcap2,hmax2,ha2,ho2,hk2,hv2⟩:=h2.msgs
 unfold maxLen at hmax hmax2;by_cases hl:l1.length=l2.length
 ·have hne:((l1.length:Int) != (l2.length:Int))=false:=by rw[bne_eq_false_iff_eq];omega
  have HL:Hid (l1.length=l2.length):=hl
  have hl2:l1.length<=l2.length:=by omega
  clear hl;go_enter Tryz.func125,Tryz.ntmps125
  go_wp2;go_loopw [5] (fun i wr=>∃k:Nat,k<=l1.length/\i= .int .i64 k/\(∀i,i<k->mO l1 i=mO l2 i/\mK l1 i=mK l2 i/\mV l1 i=mV l2 i)/\Below w.heap.size w wr)
   (fun i _=>l1.length-(intOf i).toNat)
  case atStart=>exact⟨0,Nat.zero_le _,rfl,fun i hi=>absurd hi (Nat.not_lt_zero _),Below.refl _ _⟩
  case round=>
   obtain⟨k,hkl,rfl,hall,hb⟩:=hrel
   have ALL:Hid (∀i,i<k->mO l1 i=mO l2 i/\mK l1 i=mK l2 i/\mV l1 i=mV l2 i):=hall
   clear hall;by_cases hlt:k<l1.length
   ·have hal:=ha (by omega)
    subst hal;have hal2:=ha2 (by omega)
    subst hal2;have hlt2:k<l2.length:=by omega
    have d0:=(hb.cell (by exact Ah (ho k hlt))).trans (ho k hlt)
    have d1:=(hb.cell (by exact Ah (hk k hlt))).trans (hk k hlt)
    have d2:=(hb.cell (by exact Ah (hv k hlt))).trans (hv k hlt)
    have d3:=(hb.cell (by exact Ah (ho2 k hlt2))).trans (ho2 k hlt2)
    have d4:=(hb.cell (by exact Ah (hk2 k hlt2))).trans (hk2 k hlt2)
    have d5:=(hb.cell (by exact Ah (hv2 k hlt2))).trans (hv2 k hlt2)
    clear ho hk hv ha ho2 hk2 hv2 ha2;go_wp2_with fail
    cases hq:Ep (mO l1 k) (mK l1 k) (mV l1 k) (mO l2 k) (mK l2 k) (mV l2 k)
    ·have NE:Hid (decide (l1=l2)=false):=decide_eq_false (Kf hq)
     go_region_with (go_at_call 113;refine(Hp _ _ _ _ _ _ _).mono ?_;rintro e w1 ⟨rfl,hb1⟩)
     all_goals
      go_wp2;go_ret;exact⟨Ay NE.out.symm,hb.drew.trans (hb1.mono hb.size)⟩
    ·have EQ:Hid (mO l1 k=mO l2 k/\mK l1 k=mK l2 k/\mV l1 k=mV l2 k):=Mh hq
     go_region_with (go_at_call 113;refine(Hp _ _ _ _ _ _ _).mono ?_;rintro e w1 ⟨rfl,hb1⟩)
     all_goals
      go_wp2;go_roundw
      case rel=>exact⟨k+1,by omega,by go_num,fun i hi=>if h:i<k then ALL.out i h else by rw[show i=k by omega];exact EQ.out,hb.drew.trans (hb1.mono hb.size)⟩
      case measure=>simp[intOf];omega
   ·go_wp2;go_ret;refine⟨Ay ?_,hb⟩
    symm
    rw[decide_eq_true_iff]
    exact St HL.out (fun i hi=>ALL.out i (by omega))
 ·have hne:((l1.length:Int) != (l2.length:Int))=true:=by rw[bne_iff_ne];omega
  go_enter Tryz.func125,Tryz.ntmps125
  go_wp2;go_ret;refine⟨Ay ?_,Below.refl _ _⟩
  symm
  rw[decide_eq_false_iff_not]
  intro h;exact hl (by rw[h])

theorem Tryz.info115:(Tryz.prog.info? 115).map (fun i=>(i.zero,i.size,i.bytes))=some (some (.agg #[.int .i64 0, .int .i64 0, .int .i64 0]),3,24):=by kernel_rfl

def Cd (l:ML) (k:Nat):ML:=l.take k++List.replicate (l.length-k) (0,0,0)
theorem Ix (l:ML) (k:Nat) (hk:k<=l.length):(Cd l k).length=l.length:=by simp[Cd];omega
theorem Kb (l:ML):Cd l l.length=l:=by simp[Cd]
theorem Nl (n:Nat):AW (List.replicate n (0,0,0))=List.replicate (n*3) (.int .i64 0):=by
 induction n with
 |zero=>rfl
 |succ n ih=>rw[List.replicate_succ,CA,ih,show(n+1)*3=n*3+1+1+1 by omega];simp[List.replicate_succ]
theorem Ki (l:ML) (k:Nat) (hk:k<l.length):(Cd l k).set k (mO l k,mK l k,mV l k)=Cd l (k+1):=by
 obtain⟨m,hm⟩:∃m,l.length-k=m+1:=⟨l.length-k-1,by omega⟩
 rw[Cd,Cd,NU l k hk,hm,show l.length-(k+1)=m by omega,List.replicate_succ,List.set_append_right _ _ (by simp;omega)]
 simp[show min k l.length=k by omega]

theorem MQ (v:Value) (l:ML) (w:World) (hr:Row w v l.length (AW l)) (hn:l.length<=1048576) :
  Calls Tryz.prog 120 #[v] w fun e w' =>∃v',e= .returned v' ∧w'.ownsRow w.heap.size 115 3 v' l.length (AW l)/\Below w.heap.size w w' :=by
 obtain⟨a,b,off,cap,rfl,hcap,hmax,ha,ho,hk,hv⟩:=hr.msgs
 obtain⟨i0,hi,hz0,hz1,hz2⟩:=info_parts Tryz.info115
 unfold maxLen at hmax;go_enter Tryz.func120,Tryz.ntmps120
 go_wp2_with (at_make;refine wpList_make_full _ rfl _ _ 67 rfl w.heap.size 115 i0 _ 3 Tryz.underlying67 hi hz0 hz1 .i64 .i64 _ _ l.length rfl rfl rfl rfl ?c1 ?c2 ?c3 ?_)
 case c1=>rw[hz2];omega
 case c2=>unfold maxLen;omega
 case c3=>exact Nat.le_refl _
 intro w0 hown0 hgrow0;have hb0:Below w.heap.size w w0:=(Below.refl _ _).grown hgrow0 (Nat.le_refl _) (fun k hk=>by cases hk)
 clear hgrow0;go_wp2;go_loopw [4] (fun i wr=>∃k:Nat,k<=l.length/\i= .int .i64 k/\wr.ownsRow w.heap.size 115 3 (.slice (some ⟨w.heap.size,0,none⟩) l.length l.length) l.length (AW (Cd l k))/\Below w.heap.size w wr)
  (fun i _=>l.length-(intOf i).toNat)
 case atStart=>exact⟨0,Nat.zero_le _,rfl,by rw[CV _ (.int .i64 0) (by decide) (fun i hi=>by match i,hi with|0,_=>rfl|1,_=>rfl|2,_=>rfl)] at hown0;rw[show Cd l 0=List.replicate l.length (0,0,0) by simp[Cd],Nl];exact hown0,hb0⟩
 case round=>
  obtain⟨k,hkl,rfl,hown,hb⟩:=hrel
  clear hown0 hb0;by_cases hlt:k<l.length
  ·have hal:=ha (by omega)
   subst hal;have d0:=(hb.cell (by exact Ah (ho k hlt))).trans (ho k hlt)
   have d1:=(hb.cell (by exact Ah (hk k hlt))).trans (hk k hlt)
   have d2:=(hb.cell (by exact Ah (hv k hlt))).trans (hv k hlt)
   clear ho hk hv ha;go_wp2_with fail;refine(Jz _ _ _ _).mono ?_
   rintro e w1 ⟨rfl,hb1⟩
   have own1:=Bc hown hb1
   have hfl:(Cd l k).length=l.length:=Ix l k hkl
   have hat:=Ev (Cd l k) k (by omega)
   have e0:=(own1.cellAt (k*3) (by omega)).trans hat.1
   have e1:=(own1.cellAt (k*3+1) (by omega)).trans hat.2.1
   have e2:=(own1.cellAt (k*3+2) (by omega)).trans hat.2.2
   have f0:=own1.frozenAt (k*3)
   have f1:=own1.frozenAt (k*3+1)
   have f2:=own1.frozenAt (k*3+2)
   have st:=(own1.stored (k*3) (.int .i64 (mO l k))).1
   have st2:=(st.stored (k*3+1) (.int .i64 (mK l k))).1
   have st3:=(st2.stored (k*3+2) (.int .i64 (mV l k))).1
   rw[Jp _ _ _ _ k (by omega),Ki l k hlt] at st3
   have hb2:Below w.heap.size w w1:=hb.trans (hb1.mono hb.size)
   generalize mO (Cd l k) k=x0 at *
   generalize mK (Cd l k) k=x1 at *
   generalize mV (Cd l k) k=x2 at *
   have ST:Hid _:=st3
   clear st st2 st3 hown hb1 d0 d1 d2 own1 hat hfl hr;go_wp2;go_roundw
   case rel=>exact⟨k+1,by omega,by go_num,ST.out,((hb2.setCell (Nat.le_refl _) _).setCell (Nat.le_refl _) _).setCell (Nat.le_refl _) _⟩
   case measure=>simp[intOf];omega
  ·go_wp2;go_ret;have hkk:k=l.length:=by omega
   subst hkk;rw[Kb] at hown
   exact⟨_,rfl,hown,hb⟩
end
section
open Go.RowKit

abbrev Dn:=Int × Int × Int × Bool
abbrev DL:=List Dn
abbrev dn0:Dn:=(0,0,0,false)
def dC (l:DL) (i:Nat):Int:=(l.getD i dn0).1
def dS (l:DL) (i:Nat):Int:=(l.getD i dn0).2.1
def dV (l:DL) (i:Nat):Int:=(l.getD i dn0).2.2.1
def dH (l:DL) (i:Nat):Bool:=(l.getD i dn0).2.2.2
theorem Qh (l:DL) (i:Nat) (h:i<l.length):l[i]=(dC l i,dS l i,dV l i,dH l i):=by simp[dC,dS,dV,dH,List.getD,h]
theorem SY {l1 l2:DL} (hl:l1.length=l2.length) (h:∀i,i<l1.length->dC l1 i=dC l2 i/\dS l1 i=dS l2 i/\dV l1 i=dV l2 i/\dH l1 i=dH l2 i):l1=l2:=by
 apply List.ext_getElem hl
 intro i h1 h2;rw[Qh l1 i h1,Qh l2 i h2,(h i h1).1,(h i h1).2.1,(h i h1).2.2.1,(h i h1).2.2.2]
theorem Nj (l:DL) (k:Nat) (hk:k<l.length):l.take (k+1)=l.take k++[(dC l k,dS l k,dV l k,dH l k)]:=by
 rw[List.take_succ_eq_append_getElem hk,Qh l k hk]

def Au (l:DL):List Value:=l.flatMap fun m=>[.int .i64 m.1, .int .i64 m.2.1, .int .i64 m.2.2.1, .bool m.2.2.2]
theorem Dy (m:Dn) (l:DL):Au (m::l)= .int .i64 m.1:: .int .i64 m.2.1:: .int .i64 m.2.2.1:: .bool m.2.2.2::Au l:=rfl
theorem Cm (l:DL):(Au l).length=l.length*4:=by
 induction l with
 |nil=>rfl
 |cons a l ih=>rw[Dy];simp only[List.length_cons];omega
theorem DG (l:DL):∀i,i<l.length->(Au l)[i*4]? =some (.int .i64 (dC l i))/\(Au l)[i*4+1]? =some (.int .i64 (dS l i))/\(Au l)[i*4+2]? =some (.int .i64 (dV l i))/\(Au l)[i*4+3]? =some (.bool (dH l i)):=by
 induction l with
 |nil=>intro i h;simp at h
 |cons a l ih=>
  intro i h
  cases i with
  |zero=>simp[Dy,dC,dS,dV,dH]
  |succ i=>
   have:=ih i (by simpa using h)
   have e1:(i+1)*4=i*4+1+1+1+1:=by omega
   have e2:(i+1)*4+1=(i*4+1)+1+1+1+1:=by omega
   have e3:(i+1)*4+2=(i*4+2)+1+1+1+1:=by omega
   have e4:(i+1)*4+3=(i*4+3)+1+1+1+1:=by omega
   rw[e4,e3,e2,e1,Dy]
   simpa[dC,dS,dV,dH] using this
theorem Jx (l:DL) (a b c:Int) (d:Bool):∀i,i<l.length->((((Au l).set (i*4) (.int .i64 a)).set (i*4+1) (.int .i64 b)).set (i*4+2) (.int .i64 c)).set (i*4+3) (.bool d)=Au (l.set i (a,b,c,d)):=by
 induction l with
 |nil=>intro i h;simp at h
 |cons p l ih=>
  intro i h
  cases i with
  |zero=>simp[Dy]
  |succ i=>
   have:=ih i (by simpa using h)
   rw[Dy,List.set_cons_succ,Dy,show(i+1)*4+3=(i*4+3)+1+1+1+1 by omega,show(i+1)*4+2=(i*4+2)+1+1+1+1 by omega,show(i+1)*4=i*4+1+1+1+1 by omega]
   simp only[List.set_cons_succ]
   rw[this]

theorem Row.dones {w:World} {v:Value} {l:DL} (h:Row w v l.length (Au l)) :
  ∃(a:Option Addr) (b off cap:Nat),v= .slice a l.length cap/\l.length<=cap/\cap<=maxLen/\(0<l.length->a=some ⟨b,off,none⟩)∧
   (∀i,i<l.length->w.cell? ⟨b,off+i*4,none⟩=some (.int .i64 (dC l i)))/\(∀i,i<l.length->w.cell? ⟨b,off+i*4+1,none⟩=some (.int .i64 (dS l i)))/\(∀i,i<l.length->w.cell? ⟨b,off+i*4+2,none⟩=some (.int .i64 (dV l i)))/\(∀i,i<l.length->w.cell? ⟨b,off+i*4+3,none⟩=some (.bool (dH l i))):=by
 obtain⟨a,b,off,cap,h1,h2,h3,h4,h5,_⟩:=h
 exact⟨a,b,off,cap,h1,h2,h3,h4,fun i hi=>h5 _ _ (DG l i hi).1,fun i hi=>h5 _ _ (DG l i hi).2.1,fun i hi=>h5 _ _ (DG l i hi).2.2.1,fun i hi=>h5 _ _ (DG l i hi).2.2.2⟩

theorem Ia (a:Option Addr) (n cap:Nat) (left:Int) (hn:n<=maxLen) (hl:0<=left) (hl2:left<=1048576) (w:World) :
  Calls Tryz.prog 24 #[.slice a n cap, .int .i64 left] w fun e w' =>e= .returned (.int .i64 (if (n:Int)<=left then left-n else -1))/\w' =w:=by
 unfold maxLen at hn;by_cases h:(n:Int)<=left
 ·go_enter Tryz.func24,Tryz.ntmps24
  go_wp2;go_ret;exact⟨rfl,rfl⟩
 ·go_enter Tryz.func24,Tryz.ntmps24
  go_wp2;go_ret;exact⟨rfl,rfl⟩

def FJ (p q:Dn):Bool:=decide (p=q)
theorem Ja {l1 l2:DL} {k:Nat} (h:FJ (dC l1 k,dS l1 k,dV l1 k,dH l1 k) (dC l2 k,dS l2 k,dV l2 k,dH l2 k)=false):l1≠l2:=by
 intro e;subst e;simp[FJ] at h
abbrev dnV (a b c:Int) (d:Bool):Value:= .agg #[.int .i64 a, .int .i64 b, .int .i64 c, .bool d]

theorem Ir (a b c:Int) (d:Bool) (a2 b2 c2:Int) (d2:Bool) (w:World) :
  Calls Tryz.prog 87 #[dnV a b c d,dnV a2 b2 c2 d2] w fun r w' =>r= .returned (.bool (FJ (a,b,c,d) (a2,b2,c2,d2)))/\Below w.heap.size w w' :=by
 cases d<;>cases d2 <;>
 ·go_enter Tryz.func87,Tryz.ntmps87
  go_wp2
  all_goals (go_ret;refine⟨Ay ?_,((Below.refl _ _).alloc (Nat.le_refl _) _).alloc (by simp) _⟩;simp_all[FJ])

theorem H3 (v1 v2:Value) (l1 l2:DL) (w:World) (h1:Row w v1 l1.length (Au l1)) (h2:Row w v2 l2.length (Au l2)) :
  Calls Tryz.prog 38 #[v1,v2] w fun e w' =>e= .returned (.bool (decide (l1=l2)))/\Below w.heap.size w w' :=by
 obtain⟨a,b,off,cap,rfl,hcap,hmax,ha,ho,hk,hv,hh⟩:=h1.dones
 obtain⟨a2,b2,off2,cap2,rfl,hcap2,hmax2,ha2,ho2,hk2,hv2,hh2⟩:=h2.dones
 unfold maxLen at hmax hmax2;by_cases hl:l1.length=l2.length
 ·have hne:((l1.length:Int) != (l2.length:Int))=false:=by rw[bne_eq_false_iff_eq];omega
  have HL:Hid (l1.length=l2.length):=hl
  have hl2:l1.length<=l2.length:=by omega
  clear hl;go_enter Tryz.func38,Tryz.ntmps38
  go_wp2;go_loopw [5] (fun i wr=>∃k:Nat,k<=l1.length/\i= .int .i64 k/\(∀i,i<k->dC l1 i=dC l2 i/\dS l1 i=dS l2 i/\dV l1 i=dV l2 i/\dH l1 i=dH l2 i)/\Below w.heap.size w wr)
   (fun i _=>l1.length-(intOf i).toNat)
  case atStart=>exact⟨0,Nat.zero_le _,rfl,fun i hi=>absurd hi (Nat.not_lt_zero _),Below.refl _ _⟩
  case round=>
   obtain⟨k,hkl,rfl,hall,hb⟩:=hrel
   have ALL:Hid (∀i,i<k->dC l1 i=dC l2 i/\dS l1 i=dS l2 i/\dV l1 i=dV l2 i/\dH l1 i=dH l2 i):=hall
   clear hall;by_cases hlt:k<l1.length
   ·have hal:=ha (by omega)
    subst hal;have hal2:=ha2 (by omega)
    subst hal2;have hlt2:k<l2.length:=by omega
    have d0:=(hb.cell (by exact Ah (ho k hlt))).trans (ho k hlt)
    have d1:=(hb.cell (by exact Ah (hk k hlt))).trans (hk k hlt)
    have d2:=(hb.cell (by exact Ah (hv k hlt))).trans (hv k hlt)
    have d6:=(hb.cell (by exact Ah (hh k hlt))).trans (hh k hlt)
    have d3:=(hb.cell (by exact Ah (ho2 k hlt2))).trans (ho2 k hlt2)
    have d4:=(hb.cell (by exact Ah (hk2 k hlt2))).trans (hk2 k hlt2)
    have d5:=(hb.cell (by exact Ah (hv2 k hlt2))).trans (hv2 k hlt2)
    have d7:=(hb.cell (by exact Ah (hh2 k hlt2))).trans (hh2 k hlt2)
    clear ho hk hv hh ha ho2 hk2 hv2 hh2 ha2;go_wp2_with fail
    cases hq:FJ (dC l1 k,dS l1 k,dV l1 k,dH l1 k) (dC l2 k,dS l2 k,dV l2 k,dH l2 k)
    ·have NE:Hid (decide (l1=l2)=false):=decide_eq_false (Ja hq)
     go_region_with (go_at_call 87;refine(Ir _ _ _ _ _ _ _ _ _).mono ?_;rintro e w1 ⟨rfl,hb1⟩)
     all_goals
      go_wp2;go_ret;exact⟨Ay NE.out.symm,hb.drew.trans (hb1.mono hb.size)⟩
    ·have EQ:Hid (dC l1 k=dC l2 k/\dS l1 k=dS l2 k/\dV l1 k=dV l2 k/\dH l1 k=dH l2 k):=by show _/\_;simpa[FJ] using hq
     go_region_with (go_at_call 87;refine(Ir _ _ _ _ _ _ _ _ _).mono ?_;rintro e w1 ⟨rfl,hb1⟩)
     all_goals
      go_wp2;go_roundw
      case rel=>exact⟨k+1,by omega,by go_num,fun i hi=>if h:i<k then ALL.out i h else by rw[show i=k by omega];exact EQ.out,hb.drew.trans (hb1.mono hb.size)⟩
      case measure=>simp[intOf];omega
   ·go_wp2;go_ret;refine⟨Ay ?_,hb⟩
    symm
    rw[decide_eq_true_iff]
    exact SY HL.out (fun i hi=>ALL.out i (by omega))
 ·have hne:((l1.length:Int) != (l2.length:Int))=true:=by rw[bne_iff_ne];omega
  go_enter Tryz.func38,Tryz.ntmps38
  go_wp2;go_ret;refine⟨Ay ?_,Below.refl _ _⟩
  symm
  rw[decide_eq_false_iff_not]
  intro h;exact hl (by rw[h])

theorem Tryz.info141:(Tryz.prog.info? 141).map (fun i=>(i.zero,i.size,i.bytes))=some (some (.agg #[.int .i64 0, .int .i64 0, .int .i64 0, .bool false]),4,32):=by kernel_rfl

def B7 (l:DL) (k:Nat):DL:=l.take k++List.replicate (l.length-k) dn0
theorem IZ (l:DL) (k:Nat) (hk:k<=l.length):(B7 l k).length=l.length:=by simp[B7];omega
theorem JY (l:DL):B7 l l.length=l:=by simp[B7]
theorem Kv (l:DL) (k:Nat) (hk:k<l.length):(B7 l k).set k (dC l k,dS l k,dV l k,dH l k)=B7 l (k+1):=by
 obtain⟨m,hm⟩:∃m,l.length-k=m+1:=⟨l.length-k-1,by omega⟩
 rw[B7,B7,Nj l k hk,hm,show l.length-(k+1)=m by omega,List.replicate_succ,List.set_append_right _ _ (by simp;omega)]
 simp[show min k l.length=k by omega]
theorem IA (n:Nat):(madeCells #[.int .i64 0, .int .i64 0, .int .i64 0, .bool false] (n*4)).toList=Au (List.replicate n dn0):=by
 apply List.ext_getElem?
 intro j;by_cases hj:j<n*4
 ·have hat:=DG (List.replicate n dn0) (j/4) (by simp;omega)
  have h1:dC (List.replicate n dn0) (j/4)=0:=by simp[dC,List.getD,show j/4<n by omega]
  have h2:dS (List.replicate n dn0) (j/4)=0:=by simp[dS,List.getD,show j/4<n by omega]
  have h3:dV (List.replicate n dn0) (j/4)=0:=by simp[dV,List.getD,show j/4<n by omega]
  have h4:dH (List.replicate n dn0) (j/4)=false:=by simp[dH,List.getD,show j/4<n by omega]
  rw[h1,h2,h3,h4] at hat
  rcases(show j%4=0∨j%4=1∨j%4=2∨j%4=3 by omega) with e|e|e|e
  ·have:j/4*4=j:=by omega
   rw[this] at hat
   rw[hat.1]
   simp[madeCells,hj,e]
  ·have:j/4*4+1=j:=by omega
   rw[this] at hat
   rw[hat.2.1]
   simp[madeCells,hj,e]
  ·have:j/4*4+2=j:=by omega
   rw[this] at hat
   rw[hat.2.2.1]
   simp[madeCells,hj,e]
  ·have:j/4*4+3=j:=by omega
   rw[this] at hat
   rw[hat.2.2.2]
   simp[madeCells,hj,e]
 ·have:(Au (List.replicate n dn0))[j]? =none:=by
   rw[List.getElem?_eq_none_iff,Cm];simp;omega
  rw[this]
  simp[madeCells,hj]

theorem Nq (a b c:Int) (d:Bool) (w:World) :
  Calls Tryz.prog 77 #[dnV a b c d] w fun e w' =>e= .returned (dnV a b c d)/\Below w.heap.size w w' :=by
 go_enter Tryz.func77,Tryz.ntmps77
 go_wp2;refine bodyPost_ret (v:=dnV a b c d) (by simp[results,Tryz.results77,go_sem]) rfl ⟨rfl, ?_⟩
 exact(((Below.refl _ _).alloc (Nat.le_refl _) _).alloc (by simp) _).alloc (by simp;omega) _

theorem Ib (v:Value) (l:DL) (w:World) (hr:Row w v l.length (Au l)) (hn:l.length<=1048576) :
  Calls Tryz.prog 31 #[v] w fun e w' =>∃v',e= .returned v' ∧w'.ownsRow w.heap.size 141 4 v' l.length (Au l)/\Below w.heap.size w w' :=by
 obtain⟨a,b,off,cap,rfl,hcap,hmax,ha,ho,hk,hv,hh⟩:=hr.dones
 obtain⟨i0,hi,hz0,hz1,hz2⟩:=info_parts Tryz.info141
 unfold maxLen at hmax;go_enter Tryz.func31,Tryz.ntmps31
 go_wp2_with (at_make;refine wpList_make_full _ rfl _ _ 34 rfl w.heap.size 141 i0 _ 4 Tryz.underlying34 hi hz0 hz1 .i64 .i64 _ _ l.length rfl rfl rfl rfl ?c1 ?c2 ?c3 ?_)
 case c1=>rw[hz2];omega
 case c2=>unfold maxLen;omega
 case c3=>exact Nat.le_refl _
 intro w0 hown0 hgrow0;have hb0:Below w.heap.size w w0:=(Below.refl _ _).grown hgrow0 (Nat.le_refl _) (fun k hk=>by cases hk)
 clear hgrow0;go_wp2;go_loopw [4] (fun i wr=>∃k:Nat,k<=l.length/\i= .int .i64 k/\wr.ownsRow w.heap.size 141 4 (.slice (some ⟨w.heap.size,0,none⟩) l.length l.length) l.length (Au (B7 l k))/\Below w.heap.size w wr)
  (fun i _=>l.length-(intOf i).toNat)
 case atStart=>exact⟨0,Nat.zero_le _,rfl,by rw[show(madeCells _ (l.length*4)).toList=Au (List.replicate l.length dn0) from IA l.length] at hown0;rw[show B7 l 0=List.replicate l.length dn0 by simp[B7]];exact hown0,hb0⟩
 case round=>
  obtain⟨k,hkl,rfl,hown,hb⟩:=hrel
  clear hown0 hb0;by_cases hlt:k<l.length
  ·have hal:=ha (by omega)
   subst hal;have d0:=(hb.cell (by exact Ah (ho k hlt))).trans (ho k hlt)
   have d1:=(hb.cell (by exact Ah (hk k hlt))).trans (hk k hlt)
   have d2:=(hb.cell (by exact Ah (hv k hlt))).trans (hv k hlt)
   have d3:=(hb.cell (by exact Ah (hh k hlt))).trans (hh k hlt)
   clear ho hk hv hh ha;go_wp2_with fail;refine(Nq _ _ _ _ _).mono ?_
   rintro e w1 ⟨rfl,hb1⟩
   have own1:=Bc hown hb1
   have hfl:(B7 l k).length=l.length:=IZ l k hkl
   have hat:=DG (B7 l k) k (by omega)
   have e0:=(own1.cellAt (k*4) (by omega)).trans hat.1
   have e1:=(own1.cellAt (k*4+1) (by omega)).trans hat.2.1
   have e2:=(own1.cellAt (k*4+2) (by omega)).trans hat.2.2.1
   have e3:=(own1.cellAt (k*4+3) (by omega)).trans hat.2.2.2
   have f0:=own1.frozenAt (k*4)
   have f1:=own1.frozenAt (k*4+1)
   have f2:=own1.frozenAt (k*4+2)
   have f3:=own1.frozenAt (k*4+3)
   have st:=(own1.stored (k*4) (.int .i64 (dC l k))).1
   have st2:=(st.stored (k*4+1) (.int .i64 (dS l k))).1
   have st3:=(st2.stored (k*4+2) (.int .i64 (dV l k))).1
   have st4:=(st3.stored (k*4+3) (.bool (dH l k))).1
   rw[Jx _ _ _ _ _ k (by omega),Kv l k hlt] at st4
   have hb2:Below w.heap.size w w1:=hb.trans (hb1.mono hb.size)
   generalize dC (B7 l k) k=x0 at *
   generalize dS (B7 l k) k=x1 at *
   generalize dV (B7 l k) k=x2 at *
   generalize dH (B7 l k) k=x3 at *
   have ST:Hid _:=st4
   clear st st2 st3 st4 hown hb1 d0 d1 d2 d3 own1 hat hfl hr;go_wp2;go_roundw
   case rel=>exact⟨k+1,by omega,by go_num,ST.out,(((hb2.setCell (Nat.le_refl _) _).setCell (Nat.le_refl _) _).setCell (Nat.le_refl _) _).setCell (Nat.le_refl _) _⟩
   case measure=>simp[intOf];omega
  ·go_wp2;go_ret;have hkk:k=l.length:=by omega
   subst hkk;rw[JY] at hown
   exact⟨_,rfl,hown,hb⟩
end
section
open Go.RowKit

theorem Ae (w:World) (o:Obj):Below w.heap.size w (w.alloc o):=(Below.refl _ _).alloc (Nat.le_refl _) _
def Ai (t:TypeId) (w:World) (B:Nat) (A:Array Value):Prop:=w.heap[B]? =some (.cells A t (0,0))
theorem Ai.start (t:TypeId) (w:World) (A:Array Value):Ai t (w.alloc (.cells A t)) w.heap.size A:=heap_alloc_new w _
theorem Ai.step {t:TypeId} {w w' :World} {B:Nat} {A:Array Value} (h:Ai t w B A) (hb:Below w.heap.size w w'):Ai t w' B A:=(hb.block B (Array.getElem?_eq_some_iff.1 h).1).trans h
theorem Ai.cells {t:TypeId} {w:World} {B:Nat} {A:Array Value} (h:Ai t w B A):∀j,w.cell? ⟨B,j,none⟩=A[j]? :=fun j=>cell_of_row _ _ j _ t (0,0) h
end
section
open Go.RowKit

structure Tr where
 leaf:Bool
 pairs:List (Int × Int)
 cuts:List Int
 kids:List Tr
 buf:ML

structure TV where
 lf:Bool
 p:Value
 c:Value
 k:Value
 b:Value

def TV.cells (x:TV):List Value:=[.bool x.lf,x.p,x.c,x.k,x.b]
abbrev TV.val (x:TV):Value:= .agg #[.bool x.lf,x.p,x.c,x.k,x.b]
def AA (l:List TV):List Value:=l.flatMap TV.cells
def Am (l:List Int):List Value:=l.map (.int .i64)

def AR:Tr:=⟨true,[],[],[],[]⟩
def II:TV:=⟨false, .slice none 0 0, .slice none 0 0, .slice none 0 0, .slice none 0 0⟩
def Jg (T:Tr) (i:Nat):Tr:=T.kids.getD i AR
def U8 (T:Tr) (i:Nat):Int:=T.cuts.getD i 0
def iAt (l:List Int) (i:Nat):Int:=l.getD i 0
def Ak (l:List TV) (i:Nat):TV:=l.getD i II

theorem Co (l:List Int):(Am l).length=l.length:=by simp[Am]
theorem IC (l:List Int) (i:Nat) (h:i<l.length):(Am l)[i]? =some (.int .i64 (iAt l i)):=by simp[Am,iAt,List.getD,h]
theorem Cb (x:TV) (l:List TV):AA (x::l)= .bool x.lf::x.p::x.c::x.k::x.b::AA l:=rfl
theorem Kn (l m:List TV):AA (l++m)=AA l++AA m:=by simp[AA,List.flatMap_append]
theorem Dt (l:List TV):(AA l).length=l.length*5:=by
 induction l with
 |nil=>rfl
 |cons a l ih=>rw[Cb];simp only[List.length_cons];omega
theorem Cz (l:List TV):∀i,i<l.length->(AA l)[i*5]? =some (.bool (Ak l i).lf)/\(AA l)[i*5+1]? =some (Ak l i).p/\(AA l)[i*5+2]? =some (Ak l i).c/\(AA l)[i*5+3]? =some (Ak l i).k/\(AA l)[i*5+4]? =some (Ak l i).b:=by
 induction l with
 |nil=>intro i h;simp at h
 |cons a l ih=>
  intro i h
  cases i with
  |zero=>simp[Cb,Ak]
  |succ i=>
   have:=ih i (by simpa using h)
   rw[show(i+1)*5=i*5+1+1+1+1+1 by omega,Cb]
   rw[show i*5+1+1+1+1+1+1=(i*5+1)+1+1+1+1+1 by omega,show i*5+1+1+1+1+1+2=(i*5+2)+1+1+1+1+1 by omega,show i*5+1+1+1+1+1+3=(i*5+3)+1+1+1+1+1 by omega,show i*5+1+1+1+1+1+4=(i*5+4)+1+1+1+1+1 by omega]
   simpa[Ak] using this
theorem Pu (l:List TV) (y:TV):∀i,i<l.length->(((((AA l).set (i*5) (.bool y.lf)).set (i*5+1) y.p).set (i*5+2) y.c).set (i*5+3) y.k).set (i*5+4) y.b=AA (l.set i y):=by
 induction l with
 |nil=>intro i h;simp at h
 |cons a l ih=>
  intro i h
  cases i with
  |zero=>simp[Cb]
  |succ i=>
   have:=ih i (by simpa using h)
   rw[Cb,List.set_cons_succ,Cb,show(i+1)*5+4=(i*5+4)+1+1+1+1+1 by omega,show(i+1)*5+3=(i*5+3)+1+1+1+1+1 by omega,show(i+1)*5+2=(i*5+2)+1+1+1+1+1 by omega,show(i+1)*5+1=(i*5+1)+1+1+1+1+1 by omega,show(i+1)*5=i*5+1+1+1+1+1 by omega]
   simp only[List.set_cons_succ]
   rw[this]

theorem Row.ints {w:World} {v:Value} {l:List Int} (h:Row w v l.length (Am l)) :
  ∃(a:Option Addr) (b off cap:Nat),v= .slice a l.length cap/\l.length<=cap/\cap<=maxLen/\(0<l.length->a=some ⟨b,off,none⟩)∧
   (∀i,i<l.length->w.cell? ⟨b,off+i,none⟩=some (.int .i64 (iAt l i))):=by
 obtain⟨a,b,off,cap,h1,h2,h3,h4,h5,_⟩:=h
 exact⟨a,b,off,cap,h1,h2,h3,h4,fun i hi=>h5 _ _ (IC l i hi)⟩
theorem Row.trees {w:World} {v:Value} {l:List TV} (h:Row w v l.length (AA l)) :
  ∃(a:Option Addr) (b off cap:Nat),v= .slice a l.length cap/\l.length<=cap/\cap<=maxLen/\(0<l.length->a=some ⟨b,off,none⟩)∧
   (∀i,i<l.length->w.cell? ⟨b,off+i*5,none⟩=some (.bool (Ak l i).lf))/\(∀i,i<l.length->w.cell? ⟨b,off+i*5+1,none⟩=some (Ak l i).p)/\(∀i,i<l.length->w.cell? ⟨b,off+i*5+2,none⟩=some (Ak l i).c)∧
   (∀i,i<l.length->w.cell? ⟨b,off+i*5+3,none⟩=some (Ak l i).k)/\(∀i,i<l.length->w.cell? ⟨b,off+i*5+4,none⟩=some (Ak l i).b):=by
 obtain⟨a,b,off,cap,h1,h2,h3,h4,h5,_⟩:=h
 exact⟨a,b,off,cap,h1,h2,h3,h4,fun i hi=>h5 _ _ (Cz l i hi).1,fun i hi=>h5 _ _ (Cz l i hi).2.1,fun i hi=>h5 _ _ (Cz l i hi).2.2.1,fun i hi=>h5 _ _ (Cz l i hi).2.2.2.1,fun i hi=>h5 _ _ (Cz l i hi).2.2.2.2⟩
theorem Row.len {w:World} {v:Value} {n:Nat} {xs:List Value} (h:Row w v n xs):∃(a:Option Addr) (cap:Nat),v= .slice a n cap/\n<=maxLen:=by
 obtain⟨a,b,off,cap,h1,h2,h3,_⟩:=h
 exact⟨a,cap,h1,Nat.le_trans h2 h3⟩

def Bb:Nat->World->TV->Tr->Prop
 |0,_,_,_=>False
 | n + 1, w, x, T => x.lf = T.leaf ∧ Row w x.p T.pairs.length (AF T.pairs) ∧ Row w x.c T.cuts.length (Am T.cuts) ∧ Row w x.b T.buf.length (AW T.buf) ∧
   ∃xs:List TV,xs.length=T.kids.length/\Row w x.k xs.length (AA xs)/\∀i,i<xs.length->Bb n w (Ak xs i) (Jg T i)

def BR (n:Nat) (w:World) (v:Value) (ts:List Tr):Prop:=
 ∃xs:List TV,xs.length=ts.length/\Row w v xs.length (AA xs)/\∀i,i<xs.length->Bb n w (Ak xs i) (ts.getD i AR)

theorem Bb.below:∀ {n:Nat} {w w' :World} {x:TV} {T:Tr},Bb n w x T->Below w.heap.size w w' ->Bb n w' x T
 |0,_,_,_,_,h,_=>h
 |_+1,_,_,_,_,⟨h1,h2,h3,h4,xs,h5,h6,h7⟩,hb=>⟨h1,h2.below hb,h3.below hb,h4.below hb,xs,h5,h6.below hb,fun i hi=>(h7 i hi).below hb⟩
theorem BR.below {n:Nat} {w w' :World} {v:Value} {ts:List Tr} (h:BR n w v ts) (hb:Below w.heap.size w w'):BR n w' v ts:=by
 obtain⟨xs,h5,h6,h7⟩:=h
 exact⟨xs,h5,h6.below hb,fun i hi=>(h7 i hi).below hb⟩
theorem Bb.up:∀ {n:Nat} {w:World} {x:TV} {T:Tr},Bb n w x T->Bb (n+1) w x T
 |0,_,_,_,h=>h.elim
 |_+1,_,_,_,⟨h1,h2,h3,h4,xs,h5,h6,h7⟩=>⟨h1,h2,h3,h4,xs,h5,h6,fun i hi=>(h7 i hi).up⟩
theorem Bb.le {n m:Nat} {w:World} {x:TV} {T:Tr} (h:Bb n w x T) (hm:n<=m):Bb m w x T:=by
 induction hm with
 |refl=>exact h
 |step _ ih=>exact ih.up
theorem Bb.parts {n:Nat} {w:World} {x:TV} {T:Tr} (h:Bb (n+1) w x T) :
  x.lf=T.leaf/\Row w x.p T.pairs.length (AF T.pairs)/\Row w x.c T.cuts.length (Am T.cuts)/\Row w x.b T.buf.length (AW T.buf)/\BR n w x.k T.kids:=by
 obtain⟨h1,h2,h3,h4,xs,h5,h6,h7⟩:=h
 exact⟨h1,h2,h3,h4,xs,h5,h6,h7⟩
theorem Bb.mk {n:Nat} {w:World} {x:TV} {T:Tr} (h1:x.lf=T.leaf) (h2:Row w x.p T.pairs.length (AF T.pairs)) (h3:Row w x.c T.cuts.length (Am T.cuts)) (h4:Row w x.b T.buf.length (AW T.buf)) (h5:BR n w x.k T.kids):Bb (n+1) w x T:=by
 obtain⟨xs,h5,h6,h7⟩:=h5
 exact⟨h1,h2,h3,h4,xs,h5,h6,h7⟩

def Az:Nat->Tr->Nat
 |0,_=>0
 |n+1,T=>T.pairs.length+(T.cuts.length+(T.kids.length+(T.kids.map (Az n)).sum+T.buf.length))
def Cl (n:Nat) (ts:List Tr):Nat:=ts.length+(ts.map (Az n)).sum
def DP (n:Nat) (ts:List Tr) (k:Nat):Nat:=((ts.take k).map (Az n)).sum
theorem EZ (n:Nat) (ts:List Tr) (k:Nat) (h:k<ts.length):DP n ts (k+1)=DP n ts k+Az n (ts.getD k AR):=by
 rw[DP,DP,List.take_succ_eq_append_getElem h,List.map_append,List.sum_append]
 simp[List.getD,h]
theorem JG (n:Nat) (ts:List Tr):DP n ts ts.length=(ts.map (Az n)).sum:=by simp[DP]
theorem IF (n:Nat) (ts:List Tr):∀k,DP n ts k<=(ts.map (Az n)).sum:=by
 intro k;have h:(ts.map (Az n)).sum=((ts.take k).map (Az n)).sum+((ts.drop k).map (Az n)).sum:=by
  rw[←List.sum_append, ← List.map_append,List.take_append_drop]
 rw[DP,h]
 omega
theorem JO {n:Nat} {T:Tr} {i:Nat} (hi:i<T.kids.length):Az n (Jg T i)+T.kids.length<=Az (n+1) T:=by
 have h1:=IF n T.kids (i+1)
 rw[EZ n T.kids i hi] at h1
 show Az n (T.kids.getD i AR)+_<=T.pairs.length+(T.cuts.length+(T.kids.length+(T.kids.map (Az n)).sum+T.buf.length))
 omega

def Cp (left:Int) (n:Nat):Int:=if (n:Int)<=left then left-n else -1
end
end Go.Proofs.YtkcaelfkcepdkaaGreat
