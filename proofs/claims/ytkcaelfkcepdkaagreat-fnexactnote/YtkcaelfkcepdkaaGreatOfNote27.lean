/-
  The laws' function that writes marks into a row of Rpcs.
-/
import Derived.Test.YtkcaelfkcepdkaaGreatOfNote24
namespace Go.Proofs.YtkcaelfkcepdkaaGreat
set_option maxRecDepth 100000
set_option maxHeartbeats 8000000
section
open Go.RowKit

def Av:BU:=(⟨0,0,0,0,0,0,0,false, .slice none 0 0,⟨⟨false, .slice none 0 0, .slice none 0 0, .slice none 0 0, .slice none 0 0⟩, .slice none 0 0⟩⟩,⟨[],AR,[]⟩)
def BL (n:Nat) (e:BU):Nat:=9+6*e.2.l.length+mkT n e.2.T+4*e.2.d.length
def rk1 (k:Int) (e:BU):Int:=k+8+6*e.2.l.length
def rk2 (n:Nat) (k:Int) (e:BU):Int:=rk1 k e+1+(mkT n e.2.T:Nat)
def Eu (n:Nat) (k:Int) (e:BU):Rd:=⟨Bh (k+8) e.2.l.length,Da (rk1 k e%3==0) (Ca n (rk1 k e+1) e.2.T),AG (rk2 n k e) e.2.d.length⟩
def Fr (n:Nat) (k:Int) (e:BU):BU:=(⟨k,k+1,k+2,k+3,k+4,k+5,k+6,(k+7)%3==0,e.1.ev,⟨⟨rk1 k e%3==0,e.1.s.x.p,e.1.s.x.c,e.1.s.x.k,e.1.s.x.b⟩,e.1.s.v⟩⟩,Eu n k e)
def BE (n:Nat) (k:Int) (es:List BU):List BU:=(List.range es.length).map fun i=>Fr n (k+(AC (BL n) es i:Nat)) (es.getD i Av)
def LsR (n:Nat) (w:World) (G:Nat->Nat->Prop) (v:Value) (es:List BU):Prop:=
 Ac w 0 87 15 v es.length (es.map AU).flatten/\(∀i,i<es.length->Ee n w (G i) (es.getD i Av).1 (es.getD i Av).2)/\(∀i j g,i<j->j<es.length->G i g->¬G j g)/\∀i g,i<es.length->G i g->¬wrB v g
theorem GW (n:Nat) (v:Value) (es:List BU) (G:Nat->Nat->Prop) (k:Int) (w:World) (h:LsR (n+1) w G v es) (hk0:0<=k) (hk1:k+(AC (BL (n+1)) es es.length:Nat)<=67108864) :
  Calls Tryz.prog 14 #[v, .int .i64 k] w fun e w' =>e= .returned (.int .i64 (k+(AC (BL (n+1)) es es.length:Nat)))/\Cr AU (Dw (n+1)) w' v (BE (n+1) k es)/\LsR (n+1) w' G v (BE (n+1) k es)/\Chg (fun b=>wrB v b∨∃i,i<es.length/\G i b) w w' :=by
 obtain⟨ho,hn,hd,hv⟩:=h
 have h63:es.length<=67108864:=by
  have:es.length<=AC (BL (n+1)) es es.length:=by
   have hh:∀j,j<=es.length->j<=AC (BL (n+1)) es j:=by
    intro j;induction j with
    |zero=>intro _;exact Nat.zero_le _
    |succ j ih=>
     intro hj;have:=ih (by omega)
     rw[DA _ Av es j (by omega)]
     have:1<=BL (n+1) (es.getD j Av):=by unfold BL;omega
     omega
   exact hh _ (Nat.le_refl _)
  omega
 by_cases hm:es.length=0
 ·have he:es=[]:=List.length_eq_zero_iff.1 hm
  subst he;obtain⟨a,cap,rfl⟩:=ho.slice
  have FIN:Hid (Cr AU (Dw (n+1)) w (.slice a ([]:List BU).length cap) (BE (n+1) k [])/\LsR (n+1) w G (.slice a ([]:List BU).length cap) (BE (n+1) k [])):=⟨⟨ho.rowF.row,fun e he=>by simp[BE] at he⟩,ho,hn,hd,hv⟩
  clear ho hn hd hv;show Calls Tryz.prog 14 #[.slice a 0 cap, .int .i64 k] w _
  go_enter Tryz.func14,Tryz.ntmps14
  go_wp2;go_loopw [1,5] (fun kk i wr=>i= .int .i64 0/\kk= .int .i64 k/\wr=w) (fun _ _ _=>0)
  case atStart=>exact⟨rfl,rfl,rfl⟩
  case round=>
   obtain⟨rfl,rfl,rfl⟩:=hrel
   go_wp2;go_ret;exact⟨An (by simp[AC]),FIN.out.1,FIN.out.2,Chg.refl _ _⟩
 ·obtain⟨g,cap,hvv,hgc,how⟩:∃g cap,v= .slice (some ⟨g,0,none⟩) es.length cap/\0<cap/\w.ownsRow 0 87 15 v es.length (es.map AU).flatten:=by
   rcases ho with ho|⟨h0,_⟩
   ·obtain⟨_,⟨e,e2⟩|⟨g,cap',cur,e,_,_,hle,_⟩⟩:=id ho
    ·exact absurd e2 hm
    ·exact⟨g,cap',e,by omega,ho⟩
   ·exact absurd h0 hm
  subst hvv;obtain⟨A,hA⟩:=Classical.skolem.1 (fun i=>show ∃A:Nat->Nat->Prop,i<es.length->(∀s t g,A s g->A t g->s=t)/\(∀s g,A s g->G i g)/\∀r,rP n (rS A (es.getD i Av).1) (es.getD i Av).1 (es.getD i Av).2 w r by
   by_cases hi:i<es.length
   ·obtain⟨A,h⟩:=(hn i hi).parts
    exact⟨A,fun _=>h⟩
   ·exact⟨fun _ _=>False,fun h=>absurd h hi⟩)
  have hgw:wrB (.slice (some ⟨g,0,none⟩) es.length cap) g:=⟨_,_,rfl,hgc⟩
  have FAM:Hid (Fam (fun i r b=>rS (A i) (es.getD i Av).1 r b) (fun i r W=>rP n (rS (A i) (es.getD i Av).1) (es.getD i Av).1 (es.getD i Av).2 W r) (fun i r W=>rP n (rS (A i) (es.getD i Av).1) (es.getD i Av).1 (Eu (n+1) (k+(AC (BL (n+1)) es i:Nat)) (es.getD i Av)) W r) g es.length):=
   ⟨fun i r i' r' b hi hi' h h' =>by
    have e1:=(hA i hi).2.1 _ _ h.2.1
    have e2:=(hA i' hi').2.1 _ _ h'.2.1
    have e:i=i' :=by
     rcases Nat.lt_trichotomy i i' with hlt|he|hlt
     ·exact absurd e2 (hd i i' b hlt hi' e1)
     ·exact he
     ·exact absurd e1 (hd i' i b hlt hi e2)
    subst e;exact⟨rfl,SU (hA i hi).1 h h'⟩,
   fun i r b hi h e=>hv i b hi ((hA i hi).2.1 _ _ h.2.1) (by subst e;exact hgw),
   fun i r S u u' hi h hc hs=>rP.chg h hc hs,fun i r S u u' hi h hc hs=>rP.chg h hc hs⟩
  have CL:Hid ((∀i,(AU (Fr (n+1) (k+(AC (BL (n+1)) es i:Nat)) (es.getD i Av))).length=15)/\∀i,(AU (es.getD i Av)).length=15):=⟨fun _=>rfl,fun _=>rfl⟩
  have H0:Hid (StM (fun i r b=>rS (A i) (es.getD i Av).1 r b) (fun i r W=>rP n (rS (A i) (es.getD i Av).1) (es.getD i Av).1 (es.getD i Av).2 W r) (fun i r W=>rP n (rS (A i) (es.getD i Av).1) (es.getD i Av).1 (Eu (n+1) (k+(AC (BL (n+1)) es i:Nat)) (es.getD i Av)) W r) (fun i=>AU (Fr (n+1) (k+(AC (BL (n+1)) es i:Nat)) (es.getD i Av))) (fun i=>AU (es.getD i Av)) 87 15 g es.length cap w 0 0 (AU (es.getD 0 Av)) w):=
   ⟨by rw[E9 (cs:=fun i=>AU (es.getD i Av)),RX];exact how,rfl,fun i r _ h=>by omega,fun i r hi _=>(hA i hi).2.2 r,Chg.refl _ _⟩
  have FIN:Hid (∀W,StM (fun i r b=>rS (A i) (es.getD i Av).1 r b) (fun i r W=>rP n (rS (A i) (es.getD i Av).1) (es.getD i Av).1 (es.getD i Av).2 W r) (fun i r W=>rP n (rS (A i) (es.getD i Av).1) (es.getD i Av).1 (Eu (n+1) (k+(AC (BL (n+1)) es i:Nat)) (es.getD i Av)) W r) (fun i=>AU (Fr (n+1) (k+(AC (BL (n+1)) es i:Nat)) (es.getD i Av))) (fun i=>AU (es.getD i Av)) 87 15 g es.length cap w es.length 0 (AU (es.getD es.length Av)) W→
    Cr AU (Dw (n+1)) W (.slice (some ⟨g,0,none⟩) es.length cap) (BE (n+1) k es)/\LsR (n+1) W G (.slice (some ⟨g,0,none⟩) es.length cap) (BE (n+1) k es)/\Chg (fun b=>wrB (.slice (some ⟨g,0,none⟩) es.length cap) b∨∃i,i<es.length/\G i b) w W):=fun W st=>by
   have hl:(BE (n+1) k es).length=es.length:=by simp[BE]
   have r:=Row.of_owns st.own
   rw[Ew] at r
   refine⟨⟨?_,fun e he=> ?_⟩,⟨?_,fun i hi=> ?_,fun i j g hij hj=>hd i j g hij (by omega),fun i g hi=>hv i g (by omega)⟩,st.chg.mono (fun b _ hb=> ?_)⟩
   ·rw[hl]
    unfold BE;rw[List.map_map]
    exact r
   ·obtain⟨i,hi,rfl⟩:=List.mem_map.1 he
    have hi' :=List.mem_range.1 hi
    exact rP.at (fun r _=>st.done i r hi' (.inl hi')) rfl rfl
   ·have so:=st.own
    rw[Ew] at so
    rw[hl]
    unfold BE;rw[List.map_map]
    exact .inl so
   ·have hi' :i<es.length:=by omega
    have ge:(BE (n+1) k es).getD i Av=Fr (n+1) (k+(AC (BL (n+1)) es i:Nat)) (es.getD i Av):=by simp[BE,List.getD,hi']
    rw[ge]
    exact rP.own (hA i hi').1 (hA i hi').2.1 (fun r _=>st.done i r hi' (.inl hi')) rfl rfl
   ·rcases hb with rfl|⟨i,r,hi,hb⟩
    ·exact .inl hgw
    ·exact .inr ⟨i,hi,(hA i hi).2.1 _ _ hb.2.1⟩
  have MS:Hid (∀i,i<es.length->AC (BL (n+1)) es (i+1)=AC (BL (n+1)) es i+BL (n+1) (es.getD i Av)):=fun i hi=>DA _ Av es i hi
  have ML:Hid (∀i,i<=es.length->AC (BL (n+1)) es i<=AC (BL (n+1)) es es.length):=fun i hi=>EE _ Av es i _ hi (Nat.le_refl _)
  have M0:Hid (AC (BL (n+1)) es 0=0):=by show _=_;simp[AC]
  clear ho hn hd hv how hA hgw;generalize hE:(fun i=>es.getD i Av)=E at *
  have hE' :∀i,es.getD i Av=E i:=fun i=>by rw[←hE]
  simp only[hE'] at *
  clear hE hE';generalize hTOT:AC (BL (n+1)) es es.length=TOT at *
  generalize AC (BL (n+1)) es=fo at *
  generalize BE (n+1) k es=RES at *
  generalize hmm:es.length=m at *
  clear hmm hm;go_enter Tryz.func14,Tryz.ntmps14
  go_wp2;go_loopw [1,5] (fun kk i wr=>∃j:Nat,j<=m/\i= .int .i64 j/\kk= .int .i64 (k+(fo j:Nat))/\Hid (StM (fun i r b=>rS (A i) (E i).1 r b) (fun i r W=>rP n (rS (A i) (E i).1) (E i).1 (E i).2 W r) (fun i r W=>rP n (rS (A i) (E i).1) (E i).1 (Eu (n+1) (k+(fo i:Nat)) (E i)) W r) (fun i=>AU (Fr (n+1) (k+(fo i:Nat)) (E i))) (fun i=>AU (E i)) 87 15 g m cap w j 0 (AU (E j)) wr)) (fun _ i _=>m-(intOf i).toNat)
  case atStart=>exact⟨0,Nat.zero_le _,rfl,by rw[M0.out];simp,H0⟩
  case round=>
   obtain⟨j,hj,rfl,rfl,HF⟩:=hrel
   by_cases hlt:j<m
   ·have hms:=MS.out j hlt
    have hml:=ML.out (j+1) (by omega)
    have S0:=HF
    clear H0 FIN M0 ML;have hf:=CL.out
    have FM:=FAM
    obtain⟨e,hej⟩:∃e,E j=e:=⟨_,rfl⟩
    obtain⟨a0,ha0⟩:∃x:Int,x=k+(fo j:Nat):=⟨_,rfl⟩
    rw[hej] at S0 hms
    have hT1:mkT (n+1) e.2.T=2*e.2.T.pairs.length+e.2.T.cuts.length+B6 n e.2.T.kids+3*e.2.T.buf.length:=CD n _
    have hK:BL (n+1) e=9+6*e.2.l.length+mkT (n+1) e.2.T+4*e.2.d.length:=rfl
    have g1:rk1 a0 e=a0+8+6*e.2.l.length:=rfl
    have g2:rk2 (n+1) a0 e=rk1 a0 e+1+(mkT (n+1) e.2.T:Nat):=rfl
    obtain⟨x1,h1⟩:∃x:Int,x=a0+1:=⟨_,rfl⟩
    obtain⟨x2,h2⟩:∃x:Int,x=a0+2:=⟨_,rfl⟩
    obtain⟨x3,h3⟩:∃x:Int,x=a0+3:=⟨_,rfl⟩
    obtain⟨x4,h4⟩:∃x:Int,x=a0+4:=⟨_,rfl⟩
    obtain⟨x5,h5⟩:∃x:Int,x=a0+5:=⟨_,rfl⟩
    obtain⟨x6,h6⟩:∃x:Int,x=a0+6:=⟨_,rfl⟩
    obtain⟨x7,h7⟩:∃x:Int,x=a0+7:=⟨_,rfl⟩
    obtain⟨x8,h8⟩:∃x:Int,x=a0+8:=⟨_,rfl⟩
    obtain⟨x9,h9⟩:∃x:Int,x=rk1 a0 e:=⟨_,rfl⟩
    obtain⟨x10,h10⟩:∃x:Int,x=rk1 a0 e+1:=⟨_,rfl⟩
    obtain⟨x11,h11⟩:∃x:Int,x=rk1 a0 e+1+2*(e.2.T.pairs.length:Int):=⟨_,rfl⟩
    obtain⟨x12,h12⟩:∃x:Int,x=rk1 a0 e+1+2*(e.2.T.pairs.length:Int)+e.2.T.cuts.length:=⟨_,rfl⟩
    obtain⟨x13,h13⟩:∃x:Int,x=rk1 a0 e+1+2*(e.2.T.pairs.length:Int)+e.2.T.cuts.length+(B6 n e.2.T.kids:Nat):=⟨_,rfl⟩
    obtain⟨x14,h14⟩:∃x:Int,x=rk2 (n+1) a0 e:=⟨_,rfl⟩
    obtain⟨x15,h15⟩:∃x:Int,x=rk2 (n+1) a0 e+4*(e.2.d.length:Int):=⟨_,rfl⟩
    have EN:Hid (k+(fo (j+1):Nat)=x15):=by show _=_;omega
    have C0:Hid (∀u,rP n (rS (A j) (E j).1) (E j).1 (E j).2 u 0->Calls Tryz.prog 45 #[e.1.ev, .int .i64 x8] u fun e' u' =>e' = .returned (.int .i64 x9)/\rP n (rS (A j) (E j).1) (E j).1 (Eu (n+1) (k+(fo j:Nat)) (E j)) u' 0/\Chg (rS (A j) (E j).1 0) u u'):=by
     intro u hu;rw[hej] at hu ⊢
     rw[←ha0]
     subst h15 h14 h13 h12 h11 h10 h9 h8 h7 h6 h5 h4 h3 h2 h1;refine(Si (S:=rS (A j) e.1 0) hu _ (by omega) (by omega)).mono ?_
     rintro e' u' ⟨y1,y2,y3⟩
     exact⟨y1.trans (An (by omega)),y2,y3⟩
    have C1:Hid (∀u,rP n (rS (A j) (E j).1) (E j).1 (E j).2 u 1->Calls Tryz.prog 46 #[e.1.s.x.p, .int .i64 x10] u fun e' u' =>e' = .returned (.int .i64 x11)/\rP n (rS (A j) (E j).1) (E j).1 (Eu (n+1) (k+(fo j:Nat)) (E j)) u' 1/\Chg (rS (A j) (E j).1 1) u u'):=by
     intro u hu;rw[hej] at hu ⊢
     rw[←ha0]
     subst h15 h14 h13 h12 h11 h10 h9 h8 h7 h6 h5 h4 h3 h2 h1;refine(Qj (S:=rS (A j) e.1 1) hu _ (by omega) (by omega)).mono ?_
     rintro e' u' ⟨y1,y2,y3⟩
     exact⟨y1.trans (An (by omega)),y2,y3⟩
    have C2:Hid (∀u,rP n (rS (A j) (E j).1) (E j).1 (E j).2 u 2->Calls Tryz.prog 47 #[e.1.s.x.c, .int .i64 x11] u fun e' u' =>e' = .returned (.int .i64 x12)/\rP n (rS (A j) (E j).1) (E j).1 (Eu (n+1) (k+(fo j:Nat)) (E j)) u' 2/\Chg (rS (A j) (E j).1 2) u u'):=by
     intro u hu;rw[hej] at hu ⊢
     rw[←ha0]
     subst h15 h14 h13 h12 h11 h10 h9 h8 h7 h6 h5 h4 h3 h2 h1;refine(L7 (S:=rS (A j) e.1 2) hu _ (by omega) (by omega)).mono ?_
     rintro e' u' ⟨y1,y2,y3⟩
     exact⟨y1.trans (An (by omega)),y2,y3⟩
    have C3:Hid (∀u,rP n (rS (A j) (E j).1) (E j).1 (E j).2 u 3->Calls Tryz.prog 48 #[e.1.s.x.k, .int .i64 x12] u fun e' u' =>e' = .returned (.int .i64 x13)/\rP n (rS (A j) (E j).1) (E j).1 (Eu (n+1) (k+(fo j:Nat)) (E j)) u' 3/\Chg (rS (A j) (E j).1 3) u u'):=by
     intro u hu;rw[hej] at hu ⊢
     rw[←ha0]
     subst h15 h14 h13 h12 h11 h10 h9 h8 h7 h6 h5 h4 h3 h2 h1;refine(Q6 (S:=rS (A j) e.1 3) hu _ (by omega) (by omega)).mono ?_
     rintro e' u' ⟨y1,y2,y3⟩
     exact⟨y1.trans (An (by omega)),y2,y3⟩
    have C4:Hid (∀u,rP n (rS (A j) (E j).1) (E j).1 (E j).2 u 4->Calls Tryz.prog 49 #[e.1.s.x.b, .int .i64 x13] u fun e' u' =>e' = .returned (.int .i64 x14)/\rP n (rS (A j) (E j).1) (E j).1 (Eu (n+1) (k+(fo j:Nat)) (E j)) u' 4/\Chg (rS (A j) (E j).1 4) u u'):=by
     intro u hu;rw[hej] at hu ⊢
     rw[←ha0]
     subst h15 h14 h13 h12 h11 h10 h9 h8 h7 h6 h5 h4 h3 h2 h1;refine(QC (S:=rS (A j) e.1 4) hu _ (by omega) (by omega)).mono ?_
     rintro e' u' ⟨y1,y2,y3⟩
     exact⟨y1.trans (An (by omega)),y2,y3⟩
    have C5:Hid (∀u,rP n (rS (A j) (E j).1) (E j).1 (E j).2 u 5->Calls Tryz.prog 43 #[e.1.s.v, .int .i64 x14] u fun e' u' =>e' = .returned (.int .i64 x15)/\rP n (rS (A j) (E j).1) (E j).1 (Eu (n+1) (k+(fo j:Nat)) (E j)) u' 5/\Chg (rS (A j) (E j).1 5) u u'):=by
     intro u hu;rw[hej] at hu ⊢
     rw[←ha0]
     subst h15 h14 h13 h12 h11 h10 h9 h8 h7 h6 h5 h4 h3 h2 h1;refine(Qt (S:=rS (A j) e.1 5) hu _ (by omega) (by omega)).mono ?_
     rintro e' u' ⟨y1,y2,y3⟩
     exact⟨y1.trans (An (by omega)),y2,y3⟩
    have FC:Hid (∀c,c=AU (Fr (n+1) a0 e)->c=AU (Fr (n+1) (k+(fo j:Nat)) (E j))):=fun c hc=>by rw[hej, ← ha0];exact hc
    have FE:Hid (((((((((((AU e).set 0 (.int .i64 a0)).set 1 (.int .i64 x1)).set 2 (.int .i64 x2)).set 3 (.int .i64 x3)).set 4 (.int .i64 x4)).set 5 (.int .i64 x5)).set 6 (.int .i64 x6)).set 7 (.bool (x7%3==0))).set 9 (.bool (x9%3==0)))=AU (Fr (n+1) a0 e)):=by
     show _=_
     subst h15 h14 h13 h12 h11 h10 h9 h8 h7 h6 h5 h4 h3 h2 h1;rfl
    have NX:Hid (∀i r W,6<=r->rP n (rS (A i) (E i).1) (E i).1 (Eu (n+1) (k+(fo i:Nat)) (E i)) W r):=fun i r W hr=>by
     obtain⟨r',rfl⟩:∃r',r=r' +6:=⟨r-6,by omega⟩
     exact trivial
    have HB:Hid (0<=a0/\x15<=67108864):=⟨by omega,by omega⟩
    have CH:Hid (x1=a0+1/\x2=x1+1/\x3=x2+1/\x4=x3+1/\x5=x4+1/\x6=x5+1/\x7=x6+1/\x8=x7+1/\x8<=x9/\x10=x9+1/\x10<=x11/\x11<=x12/\x12<=x13/\x13<=x14/\x14<=x15):=⟨by omega,by omega,by omega,by omega,by omega,by omega,by omega,by omega,by omega,by omega,by omega,by omega,by omega,by omega,by omega⟩
    rw[←ha0]
    clear hT1 hK g1 g2 hms hml MS CL HF FAM;clear h15 h14 h13 h12 h11 h10 h9 h8 h7 h6 h5 h4 h3 h2 h1 ha0 hej;generalize hF:(fun i r b=>rS (A i) (E i).1 r b)=F at *
    generalize hP:(fun i r W=>rP n (rS (A i) (E i).1) (E i).1 (E i).2 W r)=P at *
    generalize hQ:(fun i r W=>rP n (rS (A i) (E i).1) (E i).1 (Eu (n+1) (k+(fo i:Nat)) (E i)) W r)=Q at *
    replace C0:Hid (∀u,P j 0 u->Calls Tryz.prog 45 #[e.1.ev, .int .i64 x8] u fun e' u' =>e' = .returned (.int .i64 x9)/\Q j 0 u' ∧Chg (F j 0) u u'):=by rw[←hF, ← hP, ← hQ];exact C0
    replace C1:Hid (∀u,P j 1 u->Calls Tryz.prog 46 #[e.1.s.x.p, .int .i64 x10] u fun e' u' =>e' = .returned (.int .i64 x11)/\Q j 1 u' ∧Chg (F j 1) u u'):=by rw[←hF, ← hP, ← hQ];exact C1
    replace C2:Hid (∀u,P j 2 u->Calls Tryz.prog 47 #[e.1.s.x.c, .int .i64 x11] u fun e' u' =>e' = .returned (.int .i64 x12)/\Q j 2 u' ∧Chg (F j 2) u u'):=by rw[←hF, ← hP, ← hQ];exact C2
    replace C3:Hid (∀u,P j 3 u->Calls Tryz.prog 48 #[e.1.s.x.k, .int .i64 x12] u fun e' u' =>e' = .returned (.int .i64 x13)/\Q j 3 u' ∧Chg (F j 3) u u'):=by rw[←hF, ← hP, ← hQ];exact C3
    replace C4:Hid (∀u,P j 4 u->Calls Tryz.prog 49 #[e.1.s.x.b, .int .i64 x13] u fun e' u' =>e' = .returned (.int .i64 x14)/\Q j 4 u' ∧Chg (F j 4) u u'):=by rw[←hF, ← hP, ← hQ];exact C4
    replace C5:Hid (∀u,P j 5 u->Calls Tryz.prog 43 #[e.1.s.v, .int .i64 x14] u fun e' u' =>e' = .returned (.int .i64 x15)/\Q j 5 u' ∧Chg (F j 5) u u'):=by rw[←hF, ← hP, ← hQ];exact C5
    replace NX:Hid (∀i r W,6<=r->i<m->Q i r W):=by rw[←hQ];exact fun i r W hr _=>NX.out i r W hr
    clear hF hP hQ;have b0:0<=a0:=by have:=CH.out;have:=HB.out;omega
    have b1:a0<=67108864:=by have:=CH.out;have:=HB.out;omega
    have c0:wr.cell? ⟨g,j*15,none⟩=some (.int .i64 e.1.kd):=S0.out.cell hf hlt 0 (by omega)
    have f0:wr.frozen? ⟨g,j*15,none⟩=false:=S0.out.frozen 0
    replace S0:=Ag (S0.out.put FM.out hf hlt 0 (by omega) (.int .i64 a0))
    go_upto_region 6 with fail
    rw[show a0+1=x1 by have:=CH.out;omega]
    generalize hW1:wr.setCell ⟨g,j*15,none⟩ (.int .i64 a0)=W1 at *
    clear c0 f0 b0 b1 hW1;have b0:0<=x1:=by have:=CH.out;have:=HB.out;omega
    have b1:x1<=67108864:=by have:=CH.out;have:=HB.out;omega
    have c0:W1.cell? ⟨g,j*15+1,none⟩=some (.int .i64 e.1.fr):=S0.out.cell hf hlt 1 (by omega)
    have f0:W1.frozen? ⟨g,j*15+1,none⟩=false:=S0.out.frozen 1
    replace S0:=Ag (S0.out.put FM.out hf hlt 1 (by omega) (.int .i64 x1))
    go_upto_region 8 with fail
    rw[show x1+1=x2 by have:=CH.out;omega]
    generalize hW2:W1.setCell ⟨g,j*15+1,none⟩ (.int .i64 x1)=W2 at *
    clear c0 f0 b0 b1 hW2;have b0:0<=x2:=by have:=CH.out;have:=HB.out;omega
    have b1:x2<=67108864:=by have:=CH.out;have:=HB.out;omega
    have c0:W2.cell? ⟨g,j*15+2,none⟩=some (.int .i64 e.1.tt):=S0.out.cell hf hlt 2 (by omega)
    have f0:W2.frozen? ⟨g,j*15+2,none⟩=false:=S0.out.frozen 2
    replace S0:=Ag (S0.out.put FM.out hf hlt 2 (by omega) (.int .i64 x2))
    go_upto_region 10 with fail
    rw[show x2+1=x3 by have:=CH.out;omega]
    generalize hW3:W2.setCell ⟨g,j*15+2,none⟩ (.int .i64 x2)=W3 at *
    clear c0 f0 b0 b1 hW3;have b0:0<=x3:=by have:=CH.out;have:=HB.out;omega
    have b1:x3<=67108864:=by have:=CH.out;have:=HB.out;omega
    have c0:W3.cell? ⟨g,j*15+3,none⟩=some (.int .i64 e.1.te):=S0.out.cell hf hlt 3 (by omega)
    have f0:W3.frozen? ⟨g,j*15+3,none⟩=false:=S0.out.frozen 3
    replace S0:=Ag (S0.out.put FM.out hf hlt 3 (by omega) (.int .i64 x3))
    go_upto_region 12 with fail
    rw[show x3+1=x4 by have:=CH.out;omega]
    generalize hW4:W3.setCell ⟨g,j*15+3,none⟩ (.int .i64 x3)=W4 at *
    clear c0 f0 b0 b1 hW4;have b0:0<=x4:=by have:=CH.out;have:=HB.out;omega
    have b1:x4<=67108864:=by have:=CH.out;have:=HB.out;omega
    have c0:W4.cell? ⟨g,j*15+4,none⟩=some (.int .i64 e.1.ix):=S0.out.cell hf hlt 4 (by omega)
    have f0:W4.frozen? ⟨g,j*15+4,none⟩=false:=S0.out.frozen 4
    replace S0:=Ag (S0.out.put FM.out hf hlt 4 (by omega) (.int .i64 x4))
    go_upto_region 14 with fail
    rw[show x4+1=x5 by have:=CH.out;omega]
    generalize hW5:W4.setCell ⟨g,j*15+4,none⟩ (.int .i64 x4)=W5 at *
    clear c0 f0 b0 b1 hW5;have b0:0<=x5:=by have:=CH.out;have:=HB.out;omega
    have b1:x5<=67108864:=by have:=CH.out;have:=HB.out;omega
    have c0:W5.cell? ⟨g,j*15+5,none⟩=some (.int .i64 e.1.it):=S0.out.cell hf hlt 5 (by omega)
    have f0:W5.frozen? ⟨g,j*15+5,none⟩=false:=S0.out.frozen 5
    replace S0:=Ag (S0.out.put FM.out hf hlt 5 (by omega) (.int .i64 x5))
    go_upto_region 16 with fail
    rw[show x5+1=x6 by have:=CH.out;omega]
    generalize hW6:W5.setCell ⟨g,j*15+5,none⟩ (.int .i64 x5)=W6 at *
    clear c0 f0 b0 b1 hW6;have b0:0<=x6:=by have:=CH.out;have:=HB.out;omega
    have b1:x6<=67108864:=by have:=CH.out;have:=HB.out;omega
    have c0:W6.cell? ⟨g,j*15+6,none⟩=some (.int .i64 e.1.cm):=S0.out.cell hf hlt 6 (by omega)
    have f0:W6.frozen? ⟨g,j*15+6,none⟩=false:=S0.out.frozen 6
    replace S0:=Ag (S0.out.put FM.out hf hlt 6 (by omega) (.int .i64 x6))
    go_upto_region 18 with fail
    rw[show x6+1=x7 by have:=CH.out;omega]
    generalize hW7:W6.setCell ⟨g,j*15+6,none⟩ (.int .i64 x6)=W7 at *
    clear c0 f0 b0 b1 hW7;have b0:0<=x7:=by have:=CH.out;have:=HB.out;omega
    have b1:x7<=67108864:=by have:=CH.out;have:=HB.out;omega
    have c0:W7.cell? ⟨g,j*15+7,none⟩=some (.bool e.1.ok):=S0.out.cell hf hlt 7 (by omega)
    have f0:W7.frozen? ⟨g,j*15+7,none⟩=false:=S0.out.frozen 7
    replace S0:=Ag (S0.out.put FM.out hf hlt 7 (by omega) (.bool (x7%3==0)))
    go_upto_region 20 with fail
    rw[show x7+1=x8 by have:=CH.out;omega]
    generalize hW8:W7.setCell ⟨g,j*15+7,none⟩ (.bool (x7%3==0))=W8 at *
    clear c0 f0 b0 b1 hW8;have d0:W8.cell? ⟨g,j*15+8,none⟩=some e.1.ev:=S0.out.cell hf hlt 8 (by omega)
    go_wp2_with fail;refine(C0.out _ (S0.out.now hlt)).mono ?_
    rintro e9 W9 ⟨rfl,q9,g9⟩
    replace S0:=Ag (S0.out.call FM.out hlt q9 g9)
    clear d0 q9 g9 C0;have b0:0<=x9:=by have:=CH.out;have:=HB.out;omega
    have b1:x9<=67108864:=by have:=CH.out;have:=HB.out;omega
    have c0:W9.cell? ⟨g,j*15+9,none⟩=some (.bool e.1.s.x.lf):=S0.out.cell hf hlt 9 (by omega)
    have f0:W9.frozen? ⟨g,j*15+9,none⟩=false:=S0.out.frozen 9
    replace S0:=Ag (S0.out.put FM.out hf hlt 9 (by omega) (.bool (x9%3==0)))
    go_upto_region 23 with fail
    rw[show x9+1=x10 by have:=CH.out;omega]
    generalize hW10:W9.setCell ⟨g,j*15+9,none⟩ (.bool (x9%3==0))=W10 at *
    clear c0 f0 b0 b1 hW10;have d0:W10.cell? ⟨g,j*15+10,none⟩=some e.1.s.x.p:=S0.out.cell hf hlt 10 (by omega)
    go_wp2_with fail;refine(C1.out _ (S0.out.now hlt)).mono ?_
    rintro e11 W11 ⟨rfl,q11,g11⟩
    replace S0:=Ag (S0.out.call FM.out hlt q11 g11)
    clear d0 q11 g11 C1;have d0:W11.cell? ⟨g,j*15+11,none⟩=some e.1.s.x.c:=S0.out.cell hf hlt 11 (by omega)
    go_wp2_with fail;refine(C2.out _ (S0.out.now hlt)).mono ?_
    rintro e12 W12 ⟨rfl,q12,g12⟩
    replace S0:=Ag (S0.out.call FM.out hlt q12 g12)
    clear d0 q12 g12 C2;have d0:W12.cell? ⟨g,j*15+12,none⟩=some e.1.s.x.k:=S0.out.cell hf hlt 12 (by omega)
    go_wp2_with fail;refine(C3.out _ (S0.out.now hlt)).mono ?_
    rintro e13 W13 ⟨rfl,q13,g13⟩
    replace S0:=Ag (S0.out.call FM.out hlt q13 g13)
    clear d0 q13 g13 C3;have d0:W13.cell? ⟨g,j*15+13,none⟩=some e.1.s.x.b:=S0.out.cell hf hlt 13 (by omega)
    go_wp2_with fail;refine(C4.out _ (S0.out.now hlt)).mono ?_
    rintro e14 W14 ⟨rfl,q14,g14⟩
    replace S0:=Ag (S0.out.call FM.out hlt q14 g14)
    clear d0 q14 g14 C4;have d0:W14.cell? ⟨g,j*15+14,none⟩=some e.1.s.v:=S0.out.cell hf hlt 14 (by omega)
    go_wp2_with fail;refine(C5.out _ (S0.out.now hlt)).mono ?_
    rintro e15 W15 ⟨rfl,q15,g15⟩
    replace S0:=Ag (S0.out.call FM.out hlt q15 g15)
    clear d0 q15 g15 C5;have FN:=Ag (S0.out.next (FC.out _ FE.out) rfl (fun i r W hr hi=>NX.out i r W hr hi))
    go_wp2;go_roundw
    case rel=>exact⟨j+1,by omega,by go_num,by rw[EN.out],FN⟩
    case measure=>simp[intOf];omega
   ·have hjl:j=m:=by omega
    subst hjl;go_wp2;go_ret;exact⟨An (by rw[hTOT]),FIN.out _ HF.out⟩
end
end Go.Proofs.YtkcaelfkcepdkaaGreat
