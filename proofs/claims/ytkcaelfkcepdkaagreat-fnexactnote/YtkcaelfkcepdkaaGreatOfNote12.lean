/-
  The laws' own functions that write marks into a list of entries, and look for them.
  Marks in rows of their own, empty ones too: what was done last, truths, entries.
  The laws' own functions that write marks into a list of messages, and look for them.
  Marks in lists of pairs, at greater numbers.
  Strong contracts of the laws' marks: numbers; lists that are empty; trees whose kids are zero.
  The contract of the model's l4Put.
-/
import Derived.Test.YtkcaelfkcepdkaaGreatOfNote4
import Derived.Test.YtkcaelfkcepdkaaGreatOfNote1
import Derived.Test.YtkcaelfkcepdkaaGreatOfNote11
import Derived.Test.YtkcaelfkcepdkaaGreatOfNote8
import Derived.Test.YtkcaelfkcepdkaaGreatOfNote2
import Derived.Test.YtkcaelfkcepdkaaGreatOfNote3
import Derived.Deep.DeepCutAuto
namespace Go.Proofs.YtkcaelfkcepdkaaGreat
set_option maxRecDepth 100000
set_option maxHeartbeats 8000000
section
open Go.RowKit

def Bh (k:Int) (n:Nat):EL:=(List.range n).map fun (i:Nat)=>(k+6*i,k+6*i+1,k+6*i+1+1,k+6*i+1+1+1,k+6*i+1+1+1+1,k+6*i+1+1+1+1+1)
theorem Br (k:Int) (n:Nat):(Bh k n).length=n:=by simp[Bh]
theorem My (k:Int) (n:Nat):Bh k (n+1)=Bh k n++[(k+6*n,k+6*n+1,k+6*n+1+1,k+6*n+1+1+1,k+6*n+1+1+1+1,k+6*n+1+1+1+1+1)]:=by simp[Bh,List.range_succ]
theorem DY (k:Int) (n i:Nat) (h:i<n):eT (Bh k n) i=k+6*i/\eC (Bh k n) i=k+6*i+1/\eS (Bh k n) i=k+6*i+1+1/\eO (Bh k n) i=k+6*i+1+1+1/\eK (Bh k n) i=k+6*i+1+1+1+1/\eV (Bh k n) i=k+6*i+1+1+1+1+1:=by
 simp[Bh,eT,eC,eS,eO,eK,eV,List.getD,h]
def Fc (k:Int) (l:EL) (i:Nat):EL:=Bh k i++l.drop i
theorem Lw (k:Int) (l:EL) (i:Nat) (h:i<=l.length):(Fc k l i).length=l.length:=by simp[Fc,Br];omega
theorem OT (k:Int) (l:EL):Fc k l 0=l:=by simp[Fc,Bh]
theorem PQ (k:Int) (l:EL):Fc k l l.length=Bh k l.length:=by simp[Fc]
theorem Po (k:Int) (l:EL) (i:Nat) (h:i<l.length):(Fc k l i).set i (k+6*i,k+6*i+1,k+6*i+1+1,k+6*i+1+1+1,k+6*i+1+1+1+1,k+6*i+1+1+1+1+1)=Fc k l (i+1):=by
 rw[Fc,Fc,My,List.drop_eq_getElem_cons h,List.set_append_right _ _ (by rw[Br];omega),Br,Nat.sub_self,List.set_cons_zero]
 simp

theorem PM {w:World} {base e size n cap:Nat} {a:Option Addr} {xs:List Value} (h:w.ownsRow base e size (.slice a n cap) n xs):cap<=maxLen:=by
 obtain⟨_,⟨e,_⟩|⟨g,cap',cur,e,_,_,_,hc,_⟩⟩:=h
 ·simp at e;rw[e.2.2];exact Nat.zero_le _
 ·simp at e;rw[e.2];exact hc

theorem I2 (v:Value) (l:EL) (k:Int) (w:World) (h:w.ownsRow 0 119 6 v l.length (Af l)) (hn:l.length<=67108864) (hk0:0<=k) (hk1:k<=671088640) :
  Calls Tryz.prog 45 #[v, .int .i64 k] w fun e w' =>e= .returned (.int .i64 (k+6*l.length))/\w'.ownsRow 0 119 6 v l.length (Af (Bh k l.length))/\Chg (fun g=>v.ownBlock=some g) w w' :=by
 obtain⟨a,cap,hv⟩:=BQ h
 have OW:Hid (w.ownsRow 0 119 6 v l.length (Af l)):=h
 clear h;rw[hv] at OW ⊢
 clear hv;have hcap:=PM OW.out
 unfold maxLen at hcap;go_enter Tryz.func45,Tryz.ntmps45
 go_wp2;go_loopw [1,5] (fun kk i wr=>∃j:Nat,j<=l.length/\i= .int .i64 j/\kk= .int .i64 (k+6*j)/\wr.ownsRow 0 119 6 (.slice a l.length cap) l.length (Af (Fc k l j))/\Chg (fun g=>(Value.slice a l.length cap).ownBlock=some g) w wr)
  (fun _ i _=>l.length-(intOf i).toNat)
 case atStart=>exact⟨0,Nat.zero_le _,rfl,by simp,by rw[OT];exact OW.out,Chg.refl _ _⟩
 case round=>
  obtain⟨j,hj,rfl,rfl,hown,hch⟩:=hrel
  by_cases hlt:j<l.length
  ·have hex:∃g,a=some ⟨g,0,none⟩:=by
    obtain⟨_,⟨e,e2⟩|⟨g,cap',cur,e,_⟩⟩:=hown
    ·omega
    ·simp at e;exact⟨g,e.1⟩
   obtain⟨g,rfl⟩:=hex
   have hml:(Fc k l j).length=l.length:=Lw k l j hj
   have hat:=Do (Fc k l j) j (by omega)
   have e0:=(hown.cellAt (j*6) (by omega)).trans hat.1
   have f0:=hown.frozenAt (j*6)
   have e1:=(hown.cellAt (j*6+1) (by omega)).trans hat.2.1
   have f1:=hown.frozenAt (j*6+1)
   have e2:=(hown.cellAt (j*6+2) (by omega)).trans hat.2.2.1
   have f2:=hown.frozenAt (j*6+2)
   have e3:=(hown.cellAt (j*6+3) (by omega)).trans hat.2.2.2.1
   have f3:=hown.frozenAt (j*6+3)
   have e4:=(hown.cellAt (j*6+4) (by omega)).trans hat.2.2.2.2.1
   have f4:=hown.frozenAt (j*6+4)
   have e5:=(hown.cellAt (j*6+5) (by omega)).trans hat.2.2.2.2.2
   have f5:=hown.frozenAt (j*6+5)
   have st0:=(hown.stored (j*6) (.int .i64 (k+6*j))).1
   have st1:=(st0.stored (j*6+1) (.int .i64 (k+6*j+1))).1
   have st2:=(st1.stored (j*6+2) (.int .i64 (k+6*j+1+1))).1
   have st3:=(st2.stored (j*6+3) (.int .i64 (k+6*j+1+1+1))).1
   have st4:=(st3.stored (j*6+4) (.int .i64 (k+6*j+1+1+1+1))).1
   have st5:=(st4.stored (j*6+5) (.int .i64 (k+6*j+1+1+1+1+1))).1
   rw[JP _ _ _ _ _ _ _ j (by omega),Po k l j hlt] at st5
   have hch2:Chg (fun g' =>(Value.slice (some ⟨g,0,none⟩) l.length cap).ownBlock=some g') w ((((((wr.setCell ⟨g,j*6,none⟩ (.int .i64 (k+6*j))).setCell ⟨g,j*6+1,none⟩ (.int .i64 (k+6*j+1))).setCell ⟨g,j*6+2,none⟩ (.int .i64 (k+6*j+1+1))).setCell ⟨g,j*6+3,none⟩ (.int .i64 (k+6*j+1+1+1))).setCell ⟨g,j*6+4,none⟩ (.int .i64 (k+6*j+1+1+1+1))).setCell ⟨g,j*6+5,none⟩ (.int .i64 (k+6*j+1+1+1+1+1))):=((((((hch.setAt g _ rfl _).setAt g _ rfl _).setAt g _ rfl _).setAt g _ rfl _).setAt g _ rfl _).setAt g _ rfl _)
   generalize eT (Fc k l j) j=x0 at *
   generalize eC (Fc k l j) j=x1 at *
   generalize eS (Fc k l j) j=x2 at *
   generalize eO (Fc k l j) j=x3 at *
   generalize eK (Fc k l j) j=x4 at *
   generalize eV (Fc k l j) j=x5 at *
   have ST:Hid _:=And.intro st5 hch2
   clear st0 st1 st2 st3 st4 st5 hch2 hown hch hml hat OW;have hb0:0<=k+6*(j:Int):=by omega
   have hb1:k+6*(j:Int)<=10000000000:=by omega
   go_wp2;go_roundw
   case rel=>exact⟨j+1,by omega,by go_num,by go_num,ST.out.1,ST.out.2⟩
   case measure=>simp[intOf];omega
  ·have hjl:j=l.length:=by omega
   subst hjl;go_wp2;go_ret;rw[PQ] at hown
   exact⟨rfl,hown,hch⟩

theorem Fw (v:Value) (n:Nat) (k:Int) (w:World) (h:Row w v n (Af (Bh k n))) (hn:n<=67108864) (hk0:0<=k) (hk1:k<=671088640) :
  Calls Tryz.prog 90 #[v, .int .i64 k] w fun e w' =>e= .returned (.int .i64 (k+6*n))/\w' =w:=by
 have h' :Row w v (Bh k n).length (Af (Bh k n)):=by rw[Br];exact h
 obtain⟨a,b,off,cap,rfl,hcap,hmax,ha,h10,h11,h12,h13,h14,h15⟩:=h'.ents
 rw[Br] at *
 unfold maxLen at hmax;clear h h';go_enter Tryz.func90,Tryz.ntmps90
 go_wp2;go_loop [1,5] (fun kk i=>∃j:Nat,j<=n/\i= .int .i64 j/\kk= .int .i64 (k+6*j)) (fun _ i=>n-(intOf i).toNat)
 case atStart=>exact⟨0,Nat.zero_le _,rfl,by simp⟩
 case round=>
  obtain⟨j,hj,rfl,rfl⟩:=hrel
  by_cases hlt:j<n
  ·have hal:=ha (by omega)
   subst hal;have d0:w.cell? ⟨b,off+j*6,none⟩=some (.int .i64 (k+6*j)):=by rw[h10 j hlt,(DY k n j hlt).1]
   have d1:w.cell? ⟨b,off+j*6+1,none⟩=some (.int .i64 (k+6*j+1)):=by rw[h11 j hlt,(DY k n j hlt).2.1]
   have d2:w.cell? ⟨b,off+j*6+2,none⟩=some (.int .i64 (k+6*j+1+1)):=by rw[h12 j hlt,(DY k n j hlt).2.2.1]
   have d3:w.cell? ⟨b,off+j*6+3,none⟩=some (.int .i64 (k+6*j+1+1+1)):=by rw[h13 j hlt,(DY k n j hlt).2.2.2.1]
   have d4:w.cell? ⟨b,off+j*6+4,none⟩=some (.int .i64 (k+6*j+1+1+1+1)):=by rw[h14 j hlt,(DY k n j hlt).2.2.2.2.1]
   have d5:w.cell? ⟨b,off+j*6+5,none⟩=some (.int .i64 (k+6*j+1+1+1+1+1)):=by rw[h15 j hlt,(DY k n j hlt).2.2.2.2.2]
   clear h10 h11 h12 h13 h14 h15;have hb0:0<=k+6*(j:Int):=by omega
   have hb1:k+6*(j:Int)<=10000000000:=by omega
   go_wp2;go_round
   case rel=>exact⟨j+1,by omega,by go_num,by go_num⟩
   case measure=>simp[intOf];omega
  ·have hjl:j=n:=by omega
   subst hjl;go_wp2;go_ret;exact⟨rfl,rfl⟩
end
section
open Go.RowKit

theorem Gd (a:Option Addr) (q:Nat) (k:Int) (w:World):Calls Tryz.prog 43 #[.slice a 0 q, .int .i64 k] w fun e w' =>e= .returned (.int .i64 k)/\w' =w:=by
 go_enter Tryz.func43,Tryz.ntmps43
 go_wp2;go_loop [1,5] (fun kk i=>kk= .int .i64 k/\i= .int .i64 0) (fun _ _=>0)
 case atStart=>exact⟨rfl,rfl⟩
 case round=>
  obtain⟨rfl,rfl⟩:=hrel
  go_wp2;go_ret;exact⟨rfl,rfl⟩
theorem Ga (a:Option Addr) (q:Nat) (k:Int) (w:World):Calls Tryz.prog 73 #[.slice a 0 q, .int .i64 k] w fun e w' =>e= .returned (.int .i64 k)/\w' =w:=by
 go_enter Tryz.func73,Tryz.ntmps73
 go_wp2;go_loop [1,5] (fun kk i=>kk= .int .i64 k/\i= .int .i64 0) (fun _ _=>0)
 case atStart=>exact⟨rfl,rfl⟩
 case round=>
  obtain⟨rfl,rfl⟩:=hrel
  go_wp2;go_ret;exact⟨rfl,rfl⟩
theorem Fn (a:Option Addr) (q:Nat) (k:Int) (w:World):Calls Tryz.prog 45 #[.slice a 0 q, .int .i64 k] w fun e w' =>e= .returned (.int .i64 k)/\w' =w:=by
 go_enter Tryz.func45,Tryz.ntmps45
 go_wp2;go_loop [1,5] (fun kk i=>kk= .int .i64 k/\i= .int .i64 0) (fun _ _=>0)
 case atStart=>exact⟨rfl,rfl⟩
 case round=>
  obtain⟨rfl,rfl⟩:=hrel
  go_wp2;go_ret;exact⟨rfl,rfl⟩
theorem Ek (base:Nat) (v:Value) (l:DL) (k:Int) (w:World) (h:Ac w base 141 4 v l.length (Au l)) (hn:l.length<=67108864) (hk0:0<=k) (hk1:k<=671088640) :
  Calls Tryz.prog 43 #[v, .int .i64 k] w fun e w' =>e= .returned (.int .i64 (k+4*l.length))/\Ac w' base 141 4 v l.length (Au (AG k l.length))/\Chg (fun g=>wrB v g) w w' :=by
 rcases h with h|⟨h0,h1,g,rfl⟩
 ·obtain⟨a,cap,hv⟩:=BQ h
  subst hv;by_cases hc:0<l.length
  ·refine(I3 _ l k w (A6 h (Nat.zero_le _)) (by omega) hk0 (by omega)).mono ?_
   rintro e w' ⟨rfl,o,c⟩
   have hb:∀g,(Value.slice a l.length cap).ownBlock=some g->wrB (.slice a l.length cap) g:=fun g hg=>by
    obtain⟨_,⟨e,e2⟩|⟨g',cap',cur,e,_,_,hle,_⟩⟩:=h
    ·omega
    ·simp at e
     obtain⟨rfl,rfl⟩:=e
     simp[Value.ownBlock] at hg
     subst hg;exact⟨_,_,rfl,by omega⟩
   refine⟨rfl, .inl ?_,c.mono (fun g _ hg=>hb g hg)⟩
   obtain⟨hl,h1|⟨g,cap',cur,e,hg,hh,hn',hcap,hsz,ht⟩⟩:=o
   ·exact⟨hl, .inl h1⟩
   ·exact⟨hl, .inr ⟨g,cap',cur,e,(h.lt g (by rw[e];rfl)).1,hh,hn',hcap,hsz,ht⟩⟩
  ·have hl:l=[]:=List.length_eq_zero_iff.1 (by omega)
   subst hl;refine(Gd a cap k w).mono ?_
   rintro e w' ⟨rfl,rfl⟩
   exact⟨by simp, .inl h,Chg.refl _ _⟩
 ·have hl:l=[]:=List.length_eq_zero_iff.1 h0
  subst hl;refine(Gd _ 0 k w).mono ?_
  rintro e w' ⟨rfl,rfl⟩
  exact⟨by simp, .inr ⟨rfl,rfl,g,rfl⟩,Chg.refl _ _⟩
theorem H5 (base:Nat) (v:Value) (l:List Bool) (k:Int) (w:World) (h:Ac w base 4 1 v l.length (AJ l)) (hn:l.length<=67108864) (hk0:0<=k) (hk1:k<=671088640) :
  Calls Tryz.prog 73 #[v, .int .i64 k] w fun e w' =>e= .returned (.int .i64 (k+l.length))/\Ac w' base 4 1 v l.length (AJ (BI k l.length))/\Chg (fun g=>wrB v g) w w' :=by
 rcases h with h|⟨h0,h1,g,rfl⟩
 ·obtain⟨a,cap,hv⟩:=BQ h
  subst hv;by_cases hc:0<l.length
  ·refine(KZ _ l k w (A6 h (Nat.zero_le _)) (by omega) hk0 (by omega)).mono ?_
   rintro e w' ⟨rfl,o,c⟩
   have hb:∀g,(Value.slice a l.length cap).ownBlock=some g->wrB (.slice a l.length cap) g:=fun g hg=>by
    obtain⟨_,⟨e,e2⟩|⟨g',cap',cur,e,_,_,hle,_⟩⟩:=h
    ·omega
    ·simp at e
     obtain⟨rfl,rfl⟩:=e
     simp[Value.ownBlock] at hg
     subst hg;exact⟨_,_,rfl,by omega⟩
   refine⟨rfl, .inl ?_,c.mono (fun g _ hg=>hb g hg)⟩
   obtain⟨hl,h1|⟨g,cap',cur,e,hg,hh,hn',hcap,hsz,ht⟩⟩:=o
   ·exact⟨hl, .inl h1⟩
   ·exact⟨hl, .inr ⟨g,cap',cur,e,(h.lt g (by rw[e];rfl)).1,hh,hn',hcap,hsz,ht⟩⟩
  ·have hl:l=[]:=List.length_eq_zero_iff.1 (by omega)
   subst hl;refine(Ga a cap k w).mono ?_
   rintro e w' ⟨rfl,rfl⟩
   exact⟨by simp, .inl h,Chg.refl _ _⟩
 ·have hl:l=[]:=List.length_eq_zero_iff.1 h0
  subst hl;refine(Ga _ 0 k w).mono ?_
  rintro e w' ⟨rfl,rfl⟩
  exact⟨by simp, .inr ⟨rfl,rfl,g,rfl⟩,Chg.refl _ _⟩
theorem GR (base:Nat) (v:Value) (l:EL) (k:Int) (w:World) (h:Ac w base 119 6 v l.length (Af l)) (hn:l.length<=67108864) (hk0:0<=k) (hk1:k<=671088640) :
  Calls Tryz.prog 45 #[v, .int .i64 k] w fun e w' =>e= .returned (.int .i64 (k+6*l.length))/\Ac w' base 119 6 v l.length (Af (Bh k l.length))/\Chg (fun g=>wrB v g) w w' :=by
 rcases h with h|⟨h0,h1,g,rfl⟩
 ·obtain⟨a,cap,hv⟩:=BQ h
  subst hv;by_cases hc:0<l.length
  ·refine(I2 _ l k w (A6 h (Nat.zero_le _)) (by omega) hk0 (by omega)).mono ?_
   rintro e w' ⟨rfl,o,c⟩
   have hb:∀g,(Value.slice a l.length cap).ownBlock=some g->wrB (.slice a l.length cap) g:=fun g hg=>by
    obtain⟨_,⟨e,e2⟩|⟨g',cap',cur,e,_,_,hle,_⟩⟩:=h
    ·omega
    ·simp at e
     obtain⟨rfl,rfl⟩:=e
     simp[Value.ownBlock] at hg
     subst hg;exact⟨_,_,rfl,by omega⟩
   refine⟨rfl, .inl ?_,c.mono (fun g _ hg=>hb g hg)⟩
   obtain⟨hl,h1|⟨g,cap',cur,e,hg,hh,hn',hcap,hsz,ht⟩⟩:=o
   ·exact⟨hl, .inl h1⟩
   ·exact⟨hl, .inr ⟨g,cap',cur,e,(h.lt g (by rw[e];rfl)).1,hh,hn',hcap,hsz,ht⟩⟩
  ·have hl:l=[]:=List.length_eq_zero_iff.1 (by omega)
   subst hl;refine(Fn a cap k w).mono ?_
   rintro e w' ⟨rfl,rfl⟩
   exact⟨by simp, .inl h,Chg.refl _ _⟩
 ·have hl:l=[]:=List.length_eq_zero_iff.1 h0
  subst hl;refine(Fn _ 0 k w).mono ?_
  rintro e w' ⟨rfl,rfl⟩
  exact⟨by simp, .inr ⟨rfl,rfl,g,rfl⟩,Chg.refl _ _⟩
end
section
open Go.RowKit

def Bl (k:Int) (n:Nat):ML:=(List.range n).map fun (i:Nat)=>(k+3*i,k+3*i+1,k+3*i+2)
theorem Bd (k:Int) (n:Nat):(Bl k n).length=n:=by simp[Bl]
theorem L9 (k:Int) (n:Nat):Bl k (n+1)=Bl k n++[(k+3*n,k+3*n+1,k+3*n+2)]:=by simp[Bl,List.range_succ]
theorem Hy (k:Int) (n i:Nat) (h:i<n):mO (Bl k n) i=k+3*i/\mK (Bl k n) i=k+3*i+1/\mV (Bl k n) i=k+3*i+2:=by
 simp[Bl,mO,mK,mV,List.getD,h]
def FV (k:Int) (l:ML) (i:Nat):ML:=Bl k i++l.drop i
theorem Lz (k:Int) (l:ML) (i:Nat) (h:i<=l.length):(FV k l i).length=l.length:=by simp[FV,Bd];omega
theorem PE (k:Int) (l:ML):FV k l 0=l:=by simp[FV,Bl]
theorem O8 (k:Int) (l:ML):FV k l l.length=Bl k l.length:=by simp[FV]
theorem PX (k:Int) (l:ML) (i:Nat) (h:i<l.length):(FV k l i).set i (k+3*i,k+3*i+1,k+3*i+2)=FV k l (i+1):=by
 rw[FV,FV,L9,List.drop_eq_getElem_cons h,List.set_append_right _ _ (by rw[Bd];omega),Bd,Nat.sub_self,List.set_cons_zero]
 simp

theorem QX {w:World} {base e size n cap:Nat} {a:Option Addr} {xs:List Value} (h:w.ownsRow base e size (.slice a n cap) n xs):cap<=maxLen:=by
 obtain⟨_,⟨e,_⟩|⟨g,cap',cur,e,_,_,_,hc,_⟩⟩:=h
 ·simp at e;rw[e.2.2];exact Nat.zero_le _
 ·simp at e;rw[e.2];exact hc

theorem J7 (v:Value) (l:ML) (k:Int) (w:World) (h:w.ownsRow 0 115 3 v l.length (AW l)) (hn:l.length<=67108864) (hk0:0<=k) (hk1:k<=67108864) :
  Calls Tryz.prog 49 #[v, .int .i64 k] w fun e w' =>e= .returned (.int .i64 (k+3*l.length))/\w'.ownsRow 0 115 3 v l.length (AW (Bl k l.length))/\Chg (fun g=>v.ownBlock=some g) w w' :=by
 obtain⟨a,cap,hv⟩:=BQ h
 have OW:Hid (w.ownsRow 0 115 3 v l.length (AW l)):=h
 clear h;rw[hv] at OW ⊢
 clear hv;have hcap:=QX OW.out
 unfold maxLen at hcap;go_enter Tryz.func49,Tryz.ntmps49
 go_wp2;go_loopw [1,5] (fun kk i wr=>∃j:Nat,j<=l.length/\i= .int .i64 j/\kk= .int .i64 (k+3*j)/\wr.ownsRow 0 115 3 (.slice a l.length cap) l.length (AW (FV k l j))/\Chg (fun g=>(Value.slice a l.length cap).ownBlock=some g) w wr)
  (fun _ i _=>l.length-(intOf i).toNat)
 case atStart=>exact⟨0,Nat.zero_le _,rfl,by simp,by rw[PE];exact OW.out,Chg.refl _ _⟩
 case round=>
  obtain⟨j,hj,rfl,rfl,hown,hch⟩:=hrel
  by_cases hlt:j<l.length
  ·have hex:∃g,a=some ⟨g,0,none⟩:=by
    obtain⟨_,⟨e,e2⟩|⟨g,cap',cur,e,_⟩⟩:=hown
    ·omega
    ·simp at e;exact⟨g,e.1⟩
   obtain⟨g,rfl⟩:=hex
   have hml:(FV k l j).length=l.length:=Lz k l j hj
   have hat:=Ev (FV k l j) j (by omega)
   have e0:=(hown.cellAt (j*3) (by omega)).trans hat.1
   have e1:=(hown.cellAt (j*3+1) (by omega)).trans hat.2.1
   have e2:=(hown.cellAt (j*3+2) (by omega)).trans hat.2.2
   have f0:=hown.frozenAt (j*3)
   have f1:=hown.frozenAt (j*3+1)
   have f2:=hown.frozenAt (j*3+2)
   have st:=(hown.stored (j*3) (.int .i64 (k+3*j))).1
   have st2:=(st.stored (j*3+1) (.int .i64 (k+3*j+1))).1
   have st3:=(st2.stored (j*3+2) (.int .i64 (k+3*j+2))).1
   rw[Jp _ _ _ _ j (by omega),PX k l j hlt] at st3
   have hch2:Chg (fun g' =>(Value.slice (some ⟨g,0,none⟩) l.length cap).ownBlock=some g') w (((wr.setCell ⟨g,j*3,none⟩ (.int .i64 (k+3*j))).setCell ⟨g,j*3+1,none⟩ (.int .i64 (k+3*j+1))).setCell ⟨g,j*3+2,none⟩ (.int .i64 (k+3*j+2))):=
    ((hch.setAt g _ rfl _).setAt g _ rfl _).setAt g _ rfl _
   generalize mO (FV k l j) j=x0 at *
   generalize mK (FV k l j) j=x1 at *
   generalize mV (FV k l j) j=x2 at *
   have ST:Hid _:=And.intro st3 hch2
   clear st st2 st3 hch2 hown hch hml hat OW;have hb0:0<=k+3*(j:Int):=by omega
   have hb1:k+3*(j:Int)<=10000000000:=by omega
   go_wp2;go_roundw
   case rel=>exact⟨j+1,by omega,by go_num,by go_num,by rw[show k+3*(j:Int)+2=k+3*(j:Int)+1+1 by omega] at ST;exact ST.out.1,by rw[show k+3*(j:Int)+2=k+3*(j:Int)+1+1 by omega] at ST;exact ST.out.2⟩
   case measure=>simp[intOf];omega
  ·have hjl:j=l.length:=by omega
   subst hjl;go_wp2;go_ret;rw[O8] at hown
   exact⟨rfl,hown,hch⟩

theorem DR (v:Value) (n:Nat) (k:Int) (w:World) (h:Row w v n (AW (Bl k n))) (hn:n<=67108864) (hk0:0<=k) (hk1:k<=67108864) :
  Calls Tryz.prog 94 #[v, .int .i64 k] w fun e w' =>e= .returned (.int .i64 (k+3*n))/\w' =w:=by
 have h' :Row w v (Bl k n).length (AW (Bl k n)):=by rw[Bd];exact h
 obtain⟨a,b,off,cap,rfl,hcap,hmax,ha,ho,hk,hv⟩:=h'.msgs
 rw[Bd] at *
 unfold maxLen at hmax;clear h h';go_enter Tryz.func94,Tryz.ntmps94
 go_wp2;go_loop [1,5] (fun kk i=>∃j:Nat,j<=n/\i= .int .i64 j/\kk= .int .i64 (k+3*j)) (fun _ i=>n-(intOf i).toNat)
 case atStart=>exact⟨0,Nat.zero_le _,rfl,by simp⟩
 case round=>
  obtain⟨j,hj,rfl,rfl⟩:=hrel
  by_cases hlt:j<n
  ·have hal:=ha (by omega)
   subst hal;have d0:w.cell? ⟨b,off+j*3,none⟩=some (.int .i64 (k+3*j)):=by rw[ho j hlt,(Hy k n j hlt).1]
   have d1:w.cell? ⟨b,off+j*3+1,none⟩=some (.int .i64 (k+3*j+1)):=by rw[hk j hlt,(Hy k n j hlt).2.1]
   have d2:w.cell? ⟨b,off+j*3+2,none⟩=some (.int .i64 (k+3*j+1+1)):=by rw[hv j hlt,(Hy k n j hlt).2.2,show k+3*(j:Int)+2=k+3*(j:Int)+1+1 by omega]
   clear ho hk hv;have hb0:0<=k+3*(j:Int):=by omega
   have hb1:k+3*(j:Int)<=10000000000:=by omega
   go_wp2;go_round
   case rel=>exact⟨j+1,by omega,by go_num,by go_num⟩
   case measure=>simp[intOf];omega
  ·have hjl:j=n:=by omega
   subst hjl;go_wp2;go_ret;exact⟨rfl,rfl⟩
end
section
open Go.RowKit

theorem LY (v:Value) (l:List (Int × Int)) (k:Int) (w:World) (h:w.ownsRow 0 157 2 v l.length (AF l)) (hn:l.length<=67108864) (hk0:0<=k) (hk1:k<=67108864) :
  Calls Tryz.prog 46 #[v, .int .i64 k] w fun e w' =>e= .returned (.int .i64 (k+2*l.length))/\w'.ownsRow 0 157 2 v l.length (AF (Bn k l.length))/\Chg (fun g=>v.ownBlock=some g) w w' :=by
 obtain⟨a,cap,hv⟩:=BQ h
 have hcap:cap<=maxLen:=by
  obtain⟨_,⟨e,_⟩|⟨g,cap',cur,e,_,_,_,hc,_⟩⟩:=h
  ·rw[hv] at e;simp at e;rw[e.2.2];exact Nat.zero_le _
  ·rw[hv] at e;simp at e;rw[e.2];exact hc
 unfold maxLen at hcap;have OW:Hid (w.ownsRow 0 157 2 v l.length (AF l)):=h
 clear h;rw[hv] at OW ⊢
 clear hv;go_enter Tryz.func46,Tryz.ntmps46
 go_wp2;go_loopw [1,5] (fun kk i wr=>∃j:Nat,j<=l.length/\i= .int .i64 j/\kk= .int .i64 (k+2*j)/\wr.ownsRow 0 157 2 (.slice a l.length cap) l.length (AF (Gk k l j))/\Chg (fun g=>(Value.slice a l.length cap).ownBlock=some g) w wr)
  (fun _ i _=>l.length-(intOf i).toNat)
 case atStart=>exact⟨0,Nat.zero_le _,rfl,by simp,by rw[Pw];exact OW.out,Chg.refl _ _⟩
 case round=>
  obtain⟨j,hj,rfl,rfl,hown,hch⟩:=hrel
  by_cases hlt:j<l.length
  ·have hex:∃g,a=some ⟨g,0,none⟩:=by
    obtain⟨_,⟨e,e2⟩|⟨g,cap',cur,e,_⟩⟩:=hown
    ·omega
    ·simp at e;exact⟨g,e.1⟩
   obtain⟨g,rfl⟩:=hex
   have hml:(Gk k l j).length=l.length:=Lp k l j hj
   have hat:=GU (Gk k l j) j (by omega)
   have e0:=(hown.cellAt (j*2) (by omega)).trans hat.1
   have e1:=(hown.cellAt (j*2+1) (by omega)).trans hat.2
   have f0:=hown.frozenAt (j*2)
   have f1:=hown.frozenAt (j*2+1)
   have st:=(hown.stored (j*2) (.int .i64 (k+2*j))).1
   have st2:=(st.stored (j*2+1) (.int .i64 (k+2*j+1))).1
   rw[Ph _ _ _ j (by omega),Qf k l j hlt] at st2
   have hch2:Chg (fun g' =>(Value.slice (some ⟨g,0,none⟩) l.length cap).ownBlock=some g') w ((wr.setCell ⟨g,j*2,none⟩ (.int .i64 (k+2*j))).setCell ⟨g,j*2+1,none⟩ (.int .i64 (k+2*j+1))):=
    (hch.setAt g _ rfl _).setAt g _ rfl _
   generalize kOf (Gk k l j) j=x0 at *
   generalize vOf (Gk k l j) j=x1 at *
   have ST:Hid _:=And.intro st2 hch2
   clear st st2 hch2 hown hch hml hat OW;have hb0:0<=k+2*(j:Int):=by omega
   have hb1:k+2*(j:Int)<=10000000000:=by omega
   go_wp2;go_roundw
   case rel=>exact⟨j+1,by omega,by go_num,by go_num,ST.out.1,ST.out.2⟩
   case measure=>simp[intOf];omega
  ·have hjl:j=l.length:=by omega
   subst hjl;go_wp2;go_ret;rw[OV] at hown
   exact⟨rfl,hown,hch⟩

theorem Em (v:Value) (n:Nat) (k:Int) (w:World) (h:Row w v n (AF (Bn k n))) (hn:n<=67108864) (hk0:0<=k) (hk1:k<=67108864) :
  Calls Tryz.prog 91 #[v, .int .i64 k] w fun e w' =>e= .returned (.int .i64 (k+2*n))/\w' =w:=by
 have h' :Row w v (Bn k n).length (AF (Bn k n)):=by rw[Be];exact h
 obtain⟨a,b,off,cap,rfl,hcap,hmax,ha,hk,hv⟩:=h'.pairs
 rw[Be] at *
 unfold maxLen at hmax;clear h h';go_enter Tryz.func91,Tryz.ntmps91
 go_wp2;go_loop [1,5] (fun kk i=>∃j:Nat,j<=n/\i= .int .i64 j/\kk= .int .i64 (k+2*j)) (fun _ i=>n-(intOf i).toNat)
 case atStart=>exact⟨0,Nat.zero_le _,rfl,by simp⟩
 case round=>
  obtain⟨j,hj,rfl,rfl⟩:=hrel
  by_cases hlt:j<n
  ·have hal:=ha (by omega)
   subst hal;have d0:w.cell? ⟨b,off+j*2,none⟩=some (.int .i64 (k+2*j)):=by rw[hk j hlt,(Jw k n j hlt).1]
   have d1:w.cell? ⟨b,off+j*2+1,none⟩=some (.int .i64 (k+2*j+1)):=by rw[hv j hlt,(Jw k n j hlt).2]
   clear hk hv;have hb0:0<=k+2*(j:Int):=by omega
   have hb1:k+2*(j:Int)<=10000000000:=by omega
   go_wp2;go_round
   case rel=>exact⟨j+1,by omega,by go_num,by go_num⟩
   case measure=>simp[intOf];omega
  ·have hjl:j=n:=by omega
   subst hjl;go_wp2;go_ret;exact⟨rfl,rfl⟩
end
section
open Go.RowKit

def AS (k:Int) (n:Nat):List Int:=(List.range n).map fun (i:Nat)=>k+i
theorem AO (k:Int) (n:Nat):(AS k n).length=n:=by simp[AS]
theorem Lc (k:Int) (n:Nat):AS k (n+1)=AS k n++[k+n]:=by simp[AS,List.range_succ]
theorem OP (k:Int) (n i:Nat) (h:i<n):iAt (AS k n) i=k+i:=by simp[AS,iAt,List.getD,h]
def G6 (k:Int) (l:List Int) (i:Nat):List Int:=AS k i++l.drop i
theorem Ld (k:Int) (l:List Int) (i:Nat) (h:i<=l.length):(G6 k l i).length=l.length:=by simp[G6,AO];omega
theorem Py (k:Int) (l:List Int):G6 k l 0=l:=by simp[G6,AS]
theorem PG (k:Int) (l:List Int):G6 k l l.length=AS k l.length:=by simp[G6]
theorem Pk (k:Int) (l:List Int) (i:Nat) (h:i<l.length):(G6 k l i).set i (k+i)=G6 k l (i+1):=by
 rw[G6,G6,Lc,List.drop_eq_getElem_cons h,List.set_append_right _ _ (by rw[AO];omega),AO,Nat.sub_self,List.set_cons_zero]
 simp
theorem Np (l:List Int) (s:Int) (i:Nat):(Am l).set i (.int .i64 s)=Am (l.set i s):=by simp[Am,List.map_set]
theorem Pp (l:List Int) (i:Nat) (h:i<l.length):(Am l)[i]? =some (.int .i64 (iAt l i)):=by simp[Am,iAt,List.getD,h]

theorem MI (v:Value) (l:List Int) (k:Int) (w:World) (h:w.ownsRow 0 3 1 v l.length (Am l)) (hn:l.length<=67108864) (hk0:0<=k) (hk1:k<=67108864) :
  Calls Tryz.prog 47 #[v, .int .i64 k] w fun e w' =>e= .returned (.int .i64 (k+l.length))/\w'.ownsRow 0 3 1 v l.length (Am (AS k l.length))/\Chg (fun g=>v.ownBlock=some g) w w' :=by
 obtain⟨a,cap,hv⟩:=BQ h
 have hcap:cap<=maxLen:=by
  obtain⟨_,⟨e,_⟩|⟨g,cap',cur,e,_,_,_,hc,_⟩⟩:=h
  ·rw[hv] at e;simp at e;rw[e.2.2];exact Nat.zero_le _
  ·rw[hv] at e;simp at e;rw[e.2];exact hc
 unfold maxLen at hcap;have OW:Hid (w.ownsRow 0 3 1 v l.length (Am l)):=h
 clear h;rw[hv] at OW ⊢
 clear hv;go_enter Tryz.func47,Tryz.ntmps47
 go_wp2;go_loopw [1,5] (fun kk i wr=>∃j:Nat,j<=l.length/\i= .int .i64 j/\kk= .int .i64 (k+j)/\wr.ownsRow 0 3 1 (.slice a l.length cap) l.length (Am (G6 k l j))/\Chg (fun g=>(Value.slice a l.length cap).ownBlock=some g) w wr)
  (fun _ i _=>l.length-(intOf i).toNat)
 case atStart=>exact⟨0,Nat.zero_le _,rfl,by simp,by rw[Py];exact OW.out,Chg.refl _ _⟩
 case round=>
  obtain⟨j,hj,rfl,rfl,hown,hch⟩:=hrel
  by_cases hlt:j<l.length
  ·have hex:∃g,a=some ⟨g,0,none⟩:=by
    obtain⟨_,⟨e,e2⟩|⟨g,cap',cur,e,_⟩⟩:=hown
    ·omega
    ·simp at e;exact⟨g,e.1⟩
   obtain⟨g,rfl⟩:=hex
   have hml:(G6 k l j).length=l.length:=Ld k l j hj
   have hat:=Pp (G6 k l j) j (by omega)
   have e0:=(hown.cellAt j (by omega)).trans hat
   have f0:=hown.frozenAt j
   have st:=(hown.stored j (.int .i64 (k+j))).1
   rw[Np,Pk k l j hlt] at st
   have hch2:Chg (fun g' =>(Value.slice (some ⟨g,0,none⟩) l.length cap).ownBlock=some g') w (wr.setCell ⟨g,j,none⟩ (.int .i64 (k+j))):=hch.setAt g _ rfl _
   generalize iAt (G6 k l j) j=x0 at *
   have ST:Hid _:=And.intro st hch2
   clear st hch2 hown hch hml hat OW;have hb0:0<=k+(j:Int):=by omega
   have hb1:k+(j:Int)<=10000000000:=by omega
   go_wp2;go_roundw
   case rel=>exact⟨j+1,by omega,by go_num,by go_num,ST.out.1,ST.out.2⟩
   case measure=>simp[intOf];omega
  ·have hjl:j=l.length:=by omega
   subst hjl;go_wp2;go_ret;rw[PG] at hown
   exact⟨rfl,hown,hch⟩

theorem Dz (v:Value) (n:Nat) (k:Int) (w:World) (h:Row w v n (Am (AS k n))) (hn:n<=67108864) (hk0:0<=k) (hk1:k<=67108864) :
  Calls Tryz.prog 92 #[v, .int .i64 k] w fun e w' =>e= .returned (.int .i64 (k+n))/\w' =w:=by
 have h' :Row w v (AS k n).length (Am (AS k n)):=by rw[AO];exact h
 obtain⟨a,b,off,cap,rfl,hcap,hmax,ha,hk⟩:=h'.ints
 rw[AO] at *
 unfold maxLen at hmax;clear h h';go_enter Tryz.func92,Tryz.ntmps92
 go_wp2;go_loop [1,5] (fun kk i=>∃j:Nat,j<=n/\i= .int .i64 j/\kk= .int .i64 (k+j)) (fun _ i=>n-(intOf i).toNat)
 case atStart=>exact⟨0,Nat.zero_le _,rfl,by simp⟩
 case round=>
  obtain⟨j,hj,rfl,rfl⟩:=hrel
  by_cases hlt:j<n
  ·have hal:=ha (by omega)
   subst hal;have d0:w.cell? ⟨b,off+j,none⟩=some (.int .i64 (k+j)):=by rw[hk j hlt,OP k n j hlt]
   clear hk;have hb0:0<=k+(j:Int):=by omega
   have hb1:k+(j:Int)<=10000000000:=by omega
   go_wp2;go_round
   case rel=>exact⟨j+1,by omega,by go_num,by go_num⟩
   case measure=>simp[intOf];omega
  ·have hjl:j=n:=by omega
   subst hjl;go_wp2;go_ret;exact⟨rfl,rfl⟩

theorem Gi (a:Option Addr) (q:Nat) (k:Int) (w:World):Calls Tryz.prog 46 #[.slice a 0 q, .int .i64 k] w fun e w' =>e= .returned (.int .i64 k)/\w' =w:=by
 go_enter Tryz.func46,Tryz.ntmps46
 go_wp2;go_loop [1,5] (fun kk i=>kk= .int .i64 k/\i= .int .i64 0) (fun _ _=>0)
 case atStart=>exact⟨rfl,rfl⟩
 case round=>
  obtain⟨rfl,rfl⟩:=hrel
  go_wp2;go_ret;exact⟨rfl,rfl⟩
theorem GK (a:Option Addr) (q:Nat) (k:Int) (w:World):Calls Tryz.prog 47 #[.slice a 0 q, .int .i64 k] w fun e w' =>e= .returned (.int .i64 k)/\w' =w:=by
 go_enter Tryz.func47,Tryz.ntmps47
 go_wp2;go_loop [1,5] (fun kk i=>kk= .int .i64 k/\i= .int .i64 0) (fun _ _=>0)
 case atStart=>exact⟨rfl,rfl⟩
 case round=>
  obtain⟨rfl,rfl⟩:=hrel
  go_wp2;go_ret;exact⟨rfl,rfl⟩
theorem Hb (a:Option Addr) (q:Nat) (k:Int) (w:World):Calls Tryz.prog 49 #[.slice a 0 q, .int .i64 k] w fun e w' =>e= .returned (.int .i64 k)/\w' =w:=by
 go_enter Tryz.func49,Tryz.ntmps49
 go_wp2;go_loop [1,5] (fun kk i=>kk= .int .i64 k/\i= .int .i64 0) (fun _ _=>0)
 case atStart=>exact⟨rfl,rfl⟩
 case round=>
  obtain⟨rfl,rfl⟩:=hrel
  go_wp2;go_ret;exact⟨rfl,rfl⟩
end
section
open Go.RowKit

theorem al1 (w:World) (o:Obj):Below w.heap.size w (w.alloc o):=(Below.refl _ _).alloc (Nat.le_refl _) o
theorem al2 (w:World) (o o' :Obj):Below w.heap.size w ((w.alloc o).alloc o'):=(al1 w o).alloc (by simp) o'
abbrev set2 (u:World) (L:Nat) (t0 t1:Value):World:=(u.setCell ⟨L,0,none⟩ t0).setCell ⟨L,1,none⟩ t1
theorem Cg (u:World) (L j:Nat) (t:Value):Chg (fun g=>g=L) u (u.setCell ⟨L,j,none⟩ t):=(Chg.refl (fun g=>g=L) u).setAt L j rfl t
theorem Ac.drew {w:World} {base e size n:Nat} {v:Value} {xs:List Value} (h:Ac w base e size v n xs):Ac w.drew base e size v n xs:=h.below (Below.refl _ _).drew
theorem Ac.alloc {w:World} {base e size n:Nat} {v:Value} {xs:List Value} (h:Ac w base e size v n xs) (o:Obj):Ac (w.alloc o) base e size v n xs:=h.below (al1 w o)
theorem DZ (l:List Int):∀y∈Am l,y.oneCell' =true:=by
 intro y hy;simp[Am] at hy
 obtain⟨a,_,rfl⟩:=hy
 rfl
end
end Go.Proofs.YtkcaelfkcepdkaaGreat
