/-
  The laws' function that writes marks into a row of nodes.
-/
import Derived.Test.YtkcaelfkcepdkaaGreatOfNote23
import Derived.Deep.DeepCutAuto
import Derived.Deep.CutBlock
namespace Go.Proofs.YtkcaelfkcepdkaaGreat
set_option maxRecDepth 100000
set_option maxHeartbeats 8000000
section
open Go.RowKit

def Ap:BH:=(⟨0,0,0,0,0, .slice none 0 0,⟨⟨false, .slice none 0 0, .slice none 0 0, .slice none 0 0, .slice none 0 0⟩, .slice none 0 0⟩,0, .slice none 0 0, .slice none 0 0, .slice none 0 0,0,⟨⟨false, .slice none 0 0, .slice none 0 0, .slice none 0 0, .slice none 0 0⟩, .slice none 0 0⟩⟩,⟨[],AR,[],[],[],[],AR,[]⟩)
def BK (n:Nat) (e:BH):Nat:=9+6*e.2.l.length+mkT n e.2.T1+4*e.2.d1.length+e.2.vs.length+e.2.nx.length+e.2.mt.length+mkT n e.2.T2+4*e.2.d2.length
def nk1 (k:Int) (e:BH):Int:=k+5+6*e.2.l.length
def nk2 (n:Nat) (k:Int) (e:BH):Int:=nk1 k e+1+(mkT n e.2.T1:Nat)
def nk3 (n:Nat) (k:Int) (e:BH):Int:=nk2 n k e+4*e.2.d1.length
def nk4 (n:Nat) (k:Int) (e:BH):Int:=nk3 n k e+1+e.2.vs.length
def nk5 (n:Nat) (k:Int) (e:BH):Int:=nk4 n k e+e.2.nx.length
def nk6 (n:Nat) (k:Int) (e:BH):Int:=nk5 n k e+e.2.mt.length
def nk7 (n:Nat) (k:Int) (e:BH):Int:=nk6 n k e+2+(mkT n e.2.T2:Nat)
def Db (n:Nat) (k:Int) (e:BH):Nd:=
  ⟨Bh (k+5) e.2.l.length,Da (nk1 k e%3==0) (Ca n (nk1 k e+1) e.2.T1),AG (nk2 n k e) e.2.d1.length,BI (nk3 n k e+1) e.2.vs.length,AS (nk4 n k e) e.2.nx.length,AS (nk5 n k e) e.2.mt.length,Da ((nk6 n k e+1)%3==0) (Ca n (nk6 n k e+2) e.2.T2),AG (nk7 n k e) e.2.d2.length⟩
def Fv (n:Nat) (k:Int) (e:BH):BH:=
  (⟨k,k+1,k+2,k+3,k+4,e.1.lv,⟨⟨nk1 k e%3==0,e.1.s.x.p,e.1.s.x.c,e.1.s.x.k,e.1.s.x.b⟩,e.1.s.v⟩,nk3 n k e,e.1.vv,e.1.nv,e.1.mv,nk6 n k e,⟨⟨(nk6 n k e+1)%3==0,e.1.o.x.p,e.1.o.x.c,e.1.o.x.k,e.1.o.x.b⟩,e.1.o.v⟩⟩,Db n k e)
def Bu (n:Nat) (k:Int) (es:List BH):List BH:=(List.range es.length).map fun i=>Fv n (k+(AC (BK n) es i:Nat)) (es.getD i Ap)
def LsA (n:Nat) (w:World) (G:Nat->Nat->Prop) (v:Value) (es:List BH):Prop:=
  Ac w 0 73 23 v es.length (es.map Ax).flatten/\(∀i,i<es.length->Eg n w (G i) (es.getD i Ap).1 (es.getD i Ap).2)/\(∀i j g,i<j->j<es.length->G i g->¬G j g)/\∀i g,i<es.length->G i g->¬wrB v g
theorem RX {ε β :Type} (f: ε -> β) (d: ε) (es:List ε):(List.range es.length).map (fun i=>f (es.getD i d))=es.map f:=by
  apply List.ext_getElem
  · simp
  · intro i h1 h2
    simp at h2
    simp[List.getD,h2]
theorem DA {ε :Type} (f: ε ->Nat) (d: ε) (es:List ε) (k:Nat) (h:k<es.length):AC f es (k+1)=AC f es k+f (es.getD k d):=by
  rw[Ht f es k h]
  simp[List.getD,h]
theorem EE {ε :Type} (f: ε ->Nat) (d: ε) (es:List ε):∀(j k:Nat),j<=k->k<=es.length->AC f es j<=AC f es k
  | j, 0, h, _ => by have : j = 0 := by omega
                     subst this;exact Nat.le_refl _
  | j, k + 1, h, hk => by
    by_cases e:j=k+1
    · subst e;exact Nat.le_refl _
    · have := EE f d es j k (by omega) (by omega)
      rw[DA f d es k (by omega)]
      omega

theorem Ge (n:Nat) (v:Value) (es:List BH) (G:Nat->Nat->Prop) (k:Int) (w:World) (h:LsA (n+1) w G v es) (hk0:0<=k) (hk1:k+(AC (BK (n+1)) es es.length:Nat)<=67108864) :
    Calls Tryz.prog 41 #[v, .int .i64 k] w fun e w' =>e= .returned (.int .i64 (k+(AC (BK (n+1)) es es.length:Nat)))/\Cr Ax (Du (n+1)) w' v (Bu (n+1) k es)/\LsA (n+1) w' G v (Bu (n+1) k es)/\Chg (fun b=>wrB v b∨∃i,i<es.length/\G i b) w w' :=by
  obtain⟨ho,hn,hd,hv⟩:=h
  have h63:es.length<=67108864:=by
    have:es.length<=AC (BK (n+1)) es es.length:=by
      have hh:∀j,j<=es.length->j<=AC (BK (n+1)) es j:=by
        intro j;induction j with
        |zero=>intro _;exact Nat.zero_le _
        | succ j ih =>
          intro hj;have:=ih (by omega)
          rw[DA _ Ap es j (by omega)]
          have:1<=BK (n+1) (es.getD j Ap):=by unfold BK;omega
          omega
      exact hh _ (Nat.le_refl _)
    omega
  by_cases hm:es.length=0
  · have he : es = [] := List.length_eq_zero_iff.1 hm
    subst he;obtain⟨a,cap,rfl⟩:=ho.slice
    have FIN:Hid (Cr Ax (Du (n+1)) w (.slice a ([]:List BH).length cap) (Bu (n+1) k [])/\LsA (n+1) w G (.slice a ([]:List BH).length cap) (Bu (n+1) k [])):=⟨⟨ho.rowF.row,fun e he=>by simp[Bu] at he⟩,ho,hn,hd,hv⟩
    clear ho hn hd hv;show Calls Tryz.prog 41 #[.slice a 0 cap, .int .i64 k] w _
    go_enter Tryz.func41,Tryz.ntmps41
    go_wp2;go_loopw [1,5] (fun kk i wr=>i= .int .i64 0/\kk= .int .i64 k/\wr=w) (fun _ _ _=>0)
    case atStart=>exact⟨rfl,rfl,rfl⟩
    case round=>
      obtain⟨rfl,rfl,rfl⟩:=hrel
      go_wp2;go_ret;exact⟨An (by simp[AC]),FIN.out.1,FIN.out.2,Chg.refl _ _⟩
  · obtain⟨g,cap,hvv,hgc,how⟩:∃g cap,v= .slice (some ⟨g,0,none⟩) es.length cap/\0<cap/\w.ownsRow 0 73 23 v es.length (es.map Ax).flatten:=by
      rcases ho with ho|⟨h0,_⟩
      · obtain ⟨_, ⟨e, e2⟩ | ⟨g, cap', cur, e, _, _, hle, _⟩⟩ := id ho
        · exact absurd e2 hm
        · exact⟨g,cap',e,by omega,ho⟩
      · exact absurd h0 hm
    subst hvv;obtain⟨A,hA⟩:=Classical.skolem.1 (fun i=>show ∃A:Nat->Nat->Prop,i<es.length->(∀s t g,A s g->A t g->s=t)/\(∀s g,A s g->G i g)/\∀r,nP n (nS A (es.getD i Ap).1) (es.getD i Ap).1 (es.getD i Ap).2 w r by
      by_cases hi:i<es.length
      · obtain ⟨A, h⟩ := (hn i hi).parts
        exact⟨A,fun _=>h⟩
      · exact⟨fun _ _=>False,fun h=>absurd h hi⟩)
    have hgw:wrB (.slice (some ⟨g,0,none⟩) es.length cap) g:=⟨_,_,rfl,hgc⟩
    have FAM:Hid (Fam (fun i r b=>nS (A i) (es.getD i Ap).1 r b) (fun i r W=>nP n (nS (A i) (es.getD i Ap).1) (es.getD i Ap).1 (es.getD i Ap).2 W r) (fun i r W=>nP n (nS (A i) (es.getD i Ap).1) (es.getD i Ap).1 (Db (n+1) (k+(AC (BK (n+1)) es i:Nat)) (es.getD i Ap)) W r) g es.length):=
      ⟨fun i r i' r' b hi hi' h h' =>by
        have e1:=(hA i hi).2.1 _ _ h.2.1
        have e2:=(hA i' hi').2.1 _ _ h'.2.1
        have e:i=i' :=by
          rcases Nat.lt_trichotomy i i' with hlt|he|hlt
          · exact absurd e2 (hd i i' b hlt hi' e1)
          · exact he
          · exact absurd e1 (hd i' i b hlt hi e2)
        subst e;exact⟨rfl,SF (hA i hi).1 h h'⟩,
      fun i r b hi h e=>hv i b hi ((hA i hi).2.1 _ _ h.2.1) (by subst e;exact hgw),
      fun i r S u u' hi h hc hs=>nP.chg h hc hs,fun i r S u u' hi h hc hs=>nP.chg h hc hs⟩
    have CL:Hid ((∀i,(Ax (Fv (n+1) (k+(AC (BK (n+1)) es i:Nat)) (es.getD i Ap))).length=23)/\∀i,(Ax (es.getD i Ap)).length=23):=⟨fun _=>rfl,fun _=>rfl⟩
    have H0:Hid (StM (fun i r b=>nS (A i) (es.getD i Ap).1 r b) (fun i r W=>nP n (nS (A i) (es.getD i Ap).1) (es.getD i Ap).1 (es.getD i Ap).2 W r) (fun i r W=>nP n (nS (A i) (es.getD i Ap).1) (es.getD i Ap).1 (Db (n+1) (k+(AC (BK (n+1)) es i:Nat)) (es.getD i Ap)) W r) (fun i=>Ax (Fv (n+1) (k+(AC (BK (n+1)) es i:Nat)) (es.getD i Ap))) (fun i=>Ax (es.getD i Ap)) 73 23 g es.length cap w 0 0 (Ax (es.getD 0 Ap)) w):=
      ⟨by rw[E9 (cs:=fun i=>Ax (es.getD i Ap)),RX];exact how,rfl,fun i r _ h=>by omega,fun i r hi _=>(hA i hi).2.2 r,Chg.refl _ _⟩
    have FIN:Hid (∀W,StM (fun i r b=>nS (A i) (es.getD i Ap).1 r b) (fun i r W=>nP n (nS (A i) (es.getD i Ap).1) (es.getD i Ap).1 (es.getD i Ap).2 W r) (fun i r W=>nP n (nS (A i) (es.getD i Ap).1) (es.getD i Ap).1 (Db (n+1) (k+(AC (BK (n+1)) es i:Nat)) (es.getD i Ap)) W r) (fun i=>Ax (Fv (n+1) (k+(AC (BK (n+1)) es i:Nat)) (es.getD i Ap))) (fun i=>Ax (es.getD i Ap)) 73 23 g es.length cap w es.length 0 (Ax (es.getD es.length Ap)) W→
        Cr Ax (Du (n+1)) W (.slice (some ⟨g,0,none⟩) es.length cap) (Bu (n+1) k es)/\LsA (n+1) W G (.slice (some ⟨g,0,none⟩) es.length cap) (Bu (n+1) k es)/\Chg (fun b=>wrB (.slice (some ⟨g,0,none⟩) es.length cap) b∨∃i,i<es.length/\G i b) w W):=fun W st=>by
      have hl:(Bu (n+1) k es).length=es.length:=by simp[Bu]
      have r:=Row.of_owns st.own
      rw[Ew] at r
      refine⟨⟨?_,fun e he=> ?_⟩,⟨?_,fun i hi=> ?_,fun i j g hij hj=>hd i j g hij (by omega),fun i g hi=>hv i g (by omega)⟩,st.chg.mono (fun b _ hb=> ?_)⟩
      · rw [hl]
        unfold Bu;rw[List.map_map]
        exact r
      · obtain ⟨i, hi, rfl⟩ := List.mem_map.1 he
        have hi' :=List.mem_range.1 hi
        exact nP.at (fun r _=>st.done i r hi' (.inl hi')) rfl rfl rfl rfl rfl rfl
      · have so := st.own
        rw[Ew] at so
        rw[hl]
        unfold Bu;rw[List.map_map]
        exact .inl so
      · have hi' : i < es.length := by omega
        have ge:(Bu (n+1) k es).getD i Ap=Fv (n+1) (k+(AC (BK (n+1)) es i:Nat)) (es.getD i Ap):=by simp[Bu,List.getD,hi']
        rw[ge]
        exact nP.own (hA i hi').1 (hA i hi').2.1 (fun r _=>st.done i r hi' (.inl hi')) rfl rfl rfl rfl rfl rfl
      · rcases hb with rfl | ⟨i, r, hi, hb⟩
        · exact .inl hgw
        · exact .inr ⟨i,hi,(hA i hi).2.1 _ _ hb.2.1⟩
    have MS:Hid (∀i,i<es.length->AC (BK (n+1)) es (i+1)=AC (BK (n+1)) es i+BK (n+1) (es.getD i Ap)):=fun i hi=>DA _ Ap es i hi
    have ML:Hid (∀i,i<=es.length->AC (BK (n+1)) es i<=AC (BK (n+1)) es es.length):=fun i hi=>EE _ Ap es i _ hi (Nat.le_refl _)
    have M0:Hid (AC (BK (n+1)) es 0=0):=by show _=_;simp[AC]
    clear ho hn hd hv how hA hgw;generalize hE:(fun i=>es.getD i Ap)=E at *
    have hE' :∀i,es.getD i Ap=E i:=fun i=>by rw[←hE]
    simp only[hE'] at *
    clear hE hE';generalize hTOT:AC (BK (n+1)) es es.length=TOT at *
    generalize AC (BK (n+1)) es=fo at *
    generalize Bu (n+1) k es=RES at *
    generalize hmm:es.length=m at *
    clear hmm hm;go_enter Tryz.func41,Tryz.ntmps41
    go_wp2;go_loopw [1,5] (fun kk i wr=>∃j:Nat,j<=m/\i= .int .i64 j/\kk= .int .i64 (k+(fo j:Nat))/\Hid (StM (fun i r b=>nS (A i) (E i).1 r b) (fun i r W=>nP n (nS (A i) (E i).1) (E i).1 (E i).2 W r) (fun i r W=>nP n (nS (A i) (E i).1) (E i).1 (Db (n+1) (k+(fo i:Nat)) (E i)) W r) (fun i=>Ax (Fv (n+1) (k+(fo i:Nat)) (E i))) (fun i=>Ax (E i)) 73 23 g m cap w j 0 (Ax (E j)) wr)) (fun _ i _=>m-(intOf i).toNat)
    case atStart=>exact⟨0,Nat.zero_le _,rfl,by rw[M0.out];simp,H0⟩
    case round=>
      obtain⟨j,hj,rfl,rfl,HF⟩:=hrel
      by_cases hlt:j<m
      · have hms := MS.out j hlt
        have hml:=ML.out (j+1) (by omega)
        have S0:=HF
        clear H0 FIN M0 ML;have hf:=CL.out
        have FM:=FAM
        obtain⟨e,hej⟩:∃e,E j=e:=⟨_,rfl⟩
        obtain⟨a0,ha0⟩:∃x:Int,x=k+(fo j:Nat):=⟨_,rfl⟩
        rw[hej] at S0 hms
        have hT1:mkT (n+1) e.2.T1=2*e.2.T1.pairs.length+e.2.T1.cuts.length+B6 n e.2.T1.kids+3*e.2.T1.buf.length:=CD n _
        have hT2:mkT (n+1) e.2.T2=2*e.2.T2.pairs.length+e.2.T2.cuts.length+B6 n e.2.T2.kids+3*e.2.T2.buf.length:=CD n _
        have hK:BK (n+1) e=9+6*e.2.l.length+mkT (n+1) e.2.T1+4*e.2.d1.length+e.2.vs.length+e.2.nx.length+e.2.mt.length+mkT (n+1) e.2.T2+4*e.2.d2.length:=rfl
        have g1:nk1 a0 e=a0+5+6*e.2.l.length:=rfl
        have g2:nk2 (n+1) a0 e=nk1 a0 e+1+(mkT (n+1) e.2.T1:Nat):=rfl
        have g3:nk3 (n+1) a0 e=nk2 (n+1) a0 e+4*e.2.d1.length:=rfl
        have g4:nk4 (n+1) a0 e=nk3 (n+1) a0 e+1+e.2.vs.length:=rfl
        have g5:nk5 (n+1) a0 e=nk4 (n+1) a0 e+e.2.nx.length:=rfl
        have g6:nk6 (n+1) a0 e=nk5 (n+1) a0 e+e.2.mt.length:=rfl
        have g7:nk7 (n+1) a0 e=nk6 (n+1) a0 e+2+(mkT (n+1) e.2.T2:Nat):=rfl
        obtain⟨x1,h1⟩:∃x:Int,x=a0+1:=⟨_,rfl⟩
        obtain⟨x2,h2⟩:∃x:Int,x=a0+2:=⟨_,rfl⟩
        obtain⟨x3,h3⟩:∃x:Int,x=a0+3:=⟨_,rfl⟩
        obtain⟨x4,h4⟩:∃x:Int,x=a0+4:=⟨_,rfl⟩
        obtain⟨x5,h5⟩:∃x:Int,x=a0+5:=⟨_,rfl⟩
        obtain⟨x6,h6⟩:∃x:Int,x=nk1 a0 e:=⟨_,rfl⟩
        obtain⟨x7,h7⟩:∃x:Int,x=nk1 a0 e+1:=⟨_,rfl⟩
        obtain⟨x8,h8⟩:∃x:Int,x=nk1 a0 e+1+2*(e.2.T1.pairs.length:Int):=⟨_,rfl⟩
        obtain⟨x9,h9⟩:∃x:Int,x=nk1 a0 e+1+2*(e.2.T1.pairs.length:Int)+e.2.T1.cuts.length:=⟨_,rfl⟩
        obtain⟨x10,h10⟩:∃x:Int,x=nk1 a0 e+1+2*(e.2.T1.pairs.length:Int)+e.2.T1.cuts.length+(B6 n e.2.T1.kids:Nat):=⟨_,rfl⟩
        obtain⟨x11,h11⟩:∃x:Int,x=nk2 (n+1) a0 e:=⟨_,rfl⟩
        obtain⟨x12,h12⟩:∃x:Int,x=nk3 (n+1) a0 e:=⟨_,rfl⟩
        obtain⟨x13,h13⟩:∃x:Int,x=nk3 (n+1) a0 e+1:=⟨_,rfl⟩
        obtain⟨x14,h14⟩:∃x:Int,x=nk4 (n+1) a0 e:=⟨_,rfl⟩
        obtain⟨x15,h15⟩:∃x:Int,x=nk5 (n+1) a0 e:=⟨_,rfl⟩
        obtain⟨x16,h16⟩:∃x:Int,x=nk6 (n+1) a0 e:=⟨_,rfl⟩
        obtain⟨x17,h17⟩:∃x:Int,x=nk6 (n+1) a0 e+1:=⟨_,rfl⟩
        obtain⟨x18,h18⟩:∃x:Int,x=nk6 (n+1) a0 e+2:=⟨_,rfl⟩
        obtain⟨x19,h19⟩:∃x:Int,x=nk6 (n+1) a0 e+2+2*(e.2.T2.pairs.length:Int):=⟨_,rfl⟩
        obtain⟨x20,h20⟩:∃x:Int,x=nk6 (n+1) a0 e+2+2*(e.2.T2.pairs.length:Int)+e.2.T2.cuts.length:=⟨_,rfl⟩
        obtain⟨x21,h21⟩:∃x:Int,x=nk6 (n+1) a0 e+2+2*(e.2.T2.pairs.length:Int)+e.2.T2.cuts.length+(B6 n e.2.T2.kids:Nat):=⟨_,rfl⟩
        obtain⟨x22,h22⟩:∃x:Int,x=nk7 (n+1) a0 e:=⟨_,rfl⟩
        obtain⟨x23,h23⟩:∃x:Int,x=nk7 (n+1) a0 e+4*(e.2.d2.length:Int):=⟨_,rfl⟩
        have EN:Hid (k+(fo (j+1):Nat)=x23):=by show _=_;omega
        have C0:Hid (∀u,nP n (nS (A j) (E j).1) (E j).1 (E j).2 u 0->Calls Tryz.prog 45 #[e.1.lv, .int .i64 x5] u fun e' u' =>e' = .returned (.int .i64 x6)/\nP n (nS (A j) (E j).1) (E j).1 (Db (n+1) (k+(fo j:Nat)) (E j)) u' 0/\Chg (nS (A j) (E j).1 0) u u'):=by
          intro u hu;rw[hej] at hu ⊢
          rw[←ha0]
          subst h23 h22 h21 h20 h19 h18 h17 h16 h15 h14 h13 h12 h11 h10 h9 h8 h7 h6 h5 h4 h3 h2 h1;refine(Si (S:=nS (A j) e.1 0) hu _ (by omega) (by omega)).mono ?_
          rintro e' u' ⟨y1,y2,y3⟩
          exact⟨y1.trans (An (by omega)),y2,y3⟩
        have C1:Hid (∀u,nP n (nS (A j) (E j).1) (E j).1 (E j).2 u 1->Calls Tryz.prog 46 #[e.1.s.x.p, .int .i64 x7] u fun e' u' =>e' = .returned (.int .i64 x8)/\nP n (nS (A j) (E j).1) (E j).1 (Db (n+1) (k+(fo j:Nat)) (E j)) u' 1/\Chg (nS (A j) (E j).1 1) u u'):=by
          intro u hu;rw[hej] at hu ⊢
          rw[←ha0]
          subst h23 h22 h21 h20 h19 h18 h17 h16 h15 h14 h13 h12 h11 h10 h9 h8 h7 h6 h5 h4 h3 h2 h1;refine(Qj (S:=nS (A j) e.1 1) hu _ (by omega) (by omega)).mono ?_
          rintro e' u' ⟨y1,y2,y3⟩
          exact⟨y1.trans (An (by omega)),y2,y3⟩
        have C2:Hid (∀u,nP n (nS (A j) (E j).1) (E j).1 (E j).2 u 2->Calls Tryz.prog 47 #[e.1.s.x.c, .int .i64 x8] u fun e' u' =>e' = .returned (.int .i64 x9)/\nP n (nS (A j) (E j).1) (E j).1 (Db (n+1) (k+(fo j:Nat)) (E j)) u' 2/\Chg (nS (A j) (E j).1 2) u u'):=by
          intro u hu;rw[hej] at hu ⊢
          rw[←ha0]
          subst h23 h22 h21 h20 h19 h18 h17 h16 h15 h14 h13 h12 h11 h10 h9 h8 h7 h6 h5 h4 h3 h2 h1;refine(L7 (S:=nS (A j) e.1 2) hu _ (by omega) (by omega)).mono ?_
          rintro e' u' ⟨y1,y2,y3⟩
          exact⟨y1.trans (An (by omega)),y2,y3⟩
        have C3:Hid (∀u,nP n (nS (A j) (E j).1) (E j).1 (E j).2 u 3->Calls Tryz.prog 48 #[e.1.s.x.k, .int .i64 x9] u fun e' u' =>e' = .returned (.int .i64 x10)/\nP n (nS (A j) (E j).1) (E j).1 (Db (n+1) (k+(fo j:Nat)) (E j)) u' 3/\Chg (nS (A j) (E j).1 3) u u'):=by
          intro u hu;rw[hej] at hu ⊢
          rw[←ha0]
          subst h23 h22 h21 h20 h19 h18 h17 h16 h15 h14 h13 h12 h11 h10 h9 h8 h7 h6 h5 h4 h3 h2 h1;refine(Q6 (S:=nS (A j) e.1 3) hu _ (by omega) (by omega)).mono ?_
          rintro e' u' ⟨y1,y2,y3⟩
          exact⟨y1.trans (An (by omega)),y2,y3⟩
        have C4:Hid (∀u,nP n (nS (A j) (E j).1) (E j).1 (E j).2 u 4->Calls Tryz.prog 49 #[e.1.s.x.b, .int .i64 x10] u fun e' u' =>e' = .returned (.int .i64 x11)/\nP n (nS (A j) (E j).1) (E j).1 (Db (n+1) (k+(fo j:Nat)) (E j)) u' 4/\Chg (nS (A j) (E j).1 4) u u'):=by
          intro u hu;rw[hej] at hu ⊢
          rw[←ha0]
          subst h23 h22 h21 h20 h19 h18 h17 h16 h15 h14 h13 h12 h11 h10 h9 h8 h7 h6 h5 h4 h3 h2 h1;refine(QC (S:=nS (A j) e.1 4) hu _ (by omega) (by omega)).mono ?_
          rintro e' u' ⟨y1,y2,y3⟩
          exact⟨y1.trans (An (by omega)),y2,y3⟩
        have C5:Hid (∀u,nP n (nS (A j) (E j).1) (E j).1 (E j).2 u 5->Calls Tryz.prog 43 #[e.1.s.v, .int .i64 x11] u fun e' u' =>e' = .returned (.int .i64 x12)/\nP n (nS (A j) (E j).1) (E j).1 (Db (n+1) (k+(fo j:Nat)) (E j)) u' 5/\Chg (nS (A j) (E j).1 5) u u'):=by
          intro u hu;rw[hej] at hu ⊢
          rw[←ha0]
          subst h23 h22 h21 h20 h19 h18 h17 h16 h15 h14 h13 h12 h11 h10 h9 h8 h7 h6 h5 h4 h3 h2 h1;refine(Qt (S:=nS (A j) e.1 5) hu _ (by omega) (by omega)).mono ?_
          rintro e' u' ⟨y1,y2,y3⟩
          exact⟨y1.trans (An (by omega)),y2,y3⟩
        have C6:Hid (∀u,nP n (nS (A j) (E j).1) (E j).1 (E j).2 u 6->Calls Tryz.prog 73 #[e.1.vv, .int .i64 x13] u fun e' u' =>e' = .returned (.int .i64 x14)/\nP n (nS (A j) (E j).1) (E j).1 (Db (n+1) (k+(fo j:Nat)) (E j)) u' 6/\Chg (nS (A j) (E j).1 6) u u'):=by
          intro u hu;rw[hej] at hu ⊢
          rw[←ha0]
          subst h23 h22 h21 h20 h19 h18 h17 h16 h15 h14 h13 h12 h11 h10 h9 h8 h7 h6 h5 h4 h3 h2 h1;refine(Tt (S:=nS (A j) e.1 6) hu _ (by omega) (by omega)).mono ?_
          rintro e' u' ⟨y1,y2,y3⟩
          exact⟨y1.trans (An (by omega)),y2,y3⟩
        have C7:Hid (∀u,nP n (nS (A j) (E j).1) (E j).1 (E j).2 u 7->Calls Tryz.prog 47 #[e.1.nv, .int .i64 x14] u fun e' u' =>e' = .returned (.int .i64 x15)/\nP n (nS (A j) (E j).1) (E j).1 (Db (n+1) (k+(fo j:Nat)) (E j)) u' 7/\Chg (nS (A j) (E j).1 7) u u'):=by
          intro u hu;rw[hej] at hu ⊢
          rw[←ha0]
          subst h23 h22 h21 h20 h19 h18 h17 h16 h15 h14 h13 h12 h11 h10 h9 h8 h7 h6 h5 h4 h3 h2 h1;refine(L7 (S:=nS (A j) e.1 7) hu _ (by omega) (by omega)).mono ?_
          rintro e' u' ⟨y1,y2,y3⟩
          exact⟨y1.trans (An (by omega)),y2,y3⟩
        have C8:Hid (∀u,nP n (nS (A j) (E j).1) (E j).1 (E j).2 u 8->Calls Tryz.prog 47 #[e.1.mv, .int .i64 x15] u fun e' u' =>e' = .returned (.int .i64 x16)/\nP n (nS (A j) (E j).1) (E j).1 (Db (n+1) (k+(fo j:Nat)) (E j)) u' 8/\Chg (nS (A j) (E j).1 8) u u'):=by
          intro u hu;rw[hej] at hu ⊢
          rw[←ha0]
          subst h23 h22 h21 h20 h19 h18 h17 h16 h15 h14 h13 h12 h11 h10 h9 h8 h7 h6 h5 h4 h3 h2 h1;refine(L7 (S:=nS (A j) e.1 8) hu _ (by omega) (by omega)).mono ?_
          rintro e' u' ⟨y1,y2,y3⟩
          exact⟨y1.trans (An (by omega)),y2,y3⟩
        have C9:Hid (∀u,nP n (nS (A j) (E j).1) (E j).1 (E j).2 u 9->Calls Tryz.prog 46 #[e.1.o.x.p, .int .i64 x18] u fun e' u' =>e' = .returned (.int .i64 x19)/\nP n (nS (A j) (E j).1) (E j).1 (Db (n+1) (k+(fo j:Nat)) (E j)) u' 9/\Chg (nS (A j) (E j).1 9) u u'):=by
          intro u hu;rw[hej] at hu ⊢
          rw[←ha0]
          subst h23 h22 h21 h20 h19 h18 h17 h16 h15 h14 h13 h12 h11 h10 h9 h8 h7 h6 h5 h4 h3 h2 h1;refine(Qj (S:=nS (A j) e.1 9) hu _ (by omega) (by omega)).mono ?_
          rintro e' u' ⟨y1,y2,y3⟩
          exact⟨y1.trans (An (by omega)),y2,y3⟩
        have C10:Hid (∀u,nP n (nS (A j) (E j).1) (E j).1 (E j).2 u 10->Calls Tryz.prog 47 #[e.1.o.x.c, .int .i64 x19] u fun e' u' =>e' = .returned (.int .i64 x20)/\nP n (nS (A j) (E j).1) (E j).1 (Db (n+1) (k+(fo j:Nat)) (E j)) u' 10/\Chg (nS (A j) (E j).1 10) u u'):=by
          intro u hu;rw[hej] at hu ⊢
          rw[←ha0]
          subst h23 h22 h21 h20 h19 h18 h17 h16 h15 h14 h13 h12 h11 h10 h9 h8 h7 h6 h5 h4 h3 h2 h1;refine(L7 (S:=nS (A j) e.1 10) hu _ (by omega) (by omega)).mono ?_
          rintro e' u' ⟨y1,y2,y3⟩
          exact⟨y1.trans (An (by omega)),y2,y3⟩
        have C11:Hid (∀u,nP n (nS (A j) (E j).1) (E j).1 (E j).2 u 11->Calls Tryz.prog 48 #[e.1.o.x.k, .int .i64 x20] u fun e' u' =>e' = .returned (.int .i64 x21)/\nP n (nS (A j) (E j).1) (E j).1 (Db (n+1) (k+(fo j:Nat)) (E j)) u' 11/\Chg (nS (A j) (E j).1 11) u u'):=by
          intro u hu;rw[hej] at hu ⊢
          rw[←ha0]
          subst h23 h22 h21 h20 h19 h18 h17 h16 h15 h14 h13 h12 h11 h10 h9 h8 h7 h6 h5 h4 h3 h2 h1;refine(Q6 (S:=nS (A j) e.1 11) hu _ (by omega) (by omega)).mono ?_
          rintro e' u' ⟨y1,y2,y3⟩
          exact⟨y1.trans (An (by omega)),y2,y3⟩
        have C12:Hid (∀u,nP n (nS (A j) (E j).1) (E j).1 (E j).2 u 12->Calls Tryz.prog 49 #[e.1.o.x.b, .int .i64 x21] u fun e' u' =>e' = .returned (.int .i64 x22)/\nP n (nS (A j) (E j).1) (E j).1 (Db (n+1) (k+(fo j:Nat)) (E j)) u' 12/\Chg (nS (A j) (E j).1 12) u u'):=by
          intro u hu;rw[hej] at hu ⊢
          rw[←ha0]
          subst h23 h22 h21 h20 h19 h18 h17 h16 h15 h14 h13 h12 h11 h10 h9 h8 h7 h6 h5 h4 h3 h2 h1;refine(QC (S:=nS (A j) e.1 12) hu _ (by omega) (by omega)).mono ?_
          rintro e' u' ⟨y1,y2,y3⟩
          exact⟨y1.trans (An (by omega)),y2,y3⟩
        have C13:Hid (∀u,nP n (nS (A j) (E j).1) (E j).1 (E j).2 u 13->Calls Tryz.prog 43 #[e.1.o.v, .int .i64 x22] u fun e' u' =>e' = .returned (.int .i64 x23)/\nP n (nS (A j) (E j).1) (E j).1 (Db (n+1) (k+(fo j:Nat)) (E j)) u' 13/\Chg (nS (A j) (E j).1 13) u u'):=by
          intro u hu;rw[hej] at hu ⊢
          rw[←ha0]
          subst h23 h22 h21 h20 h19 h18 h17 h16 h15 h14 h13 h12 h11 h10 h9 h8 h7 h6 h5 h4 h3 h2 h1;refine(Qt (S:=nS (A j) e.1 13) hu _ (by omega) (by omega)).mono ?_
          rintro e' u' ⟨y1,y2,y3⟩
          exact⟨y1.trans (An (by omega)),y2,y3⟩
        have FC:Hid (∀c,c=Ax (Fv (n+1) a0 e)->c=Ax (Fv (n+1) (k+(fo j:Nat)) (E j))):=fun c hc=>by rw[hej, ← ha0];exact hc
        have FE:Hid (((((((((((Ax e).set 0 (.int .i64 a0)).set 1 (.int .i64 x1)).set 2 (.int .i64 x2)).set 3 (.int .i64 x3)).set 4 (.int .i64 x4)).set 6 (.bool (x6%3==0))).set 12 (.int .i64 x12)).set 16 (.int .i64 x16)).set 17 (.bool (x17%3==0)))=Ax (Fv (n+1) a0 e)):=by
          show _=_
          subst h23 h22 h21 h20 h19 h18 h17 h16 h15 h14 h13 h12 h11 h10 h9 h8 h7 h6 h5 h4 h3 h2 h1;rfl
        have NX:Hid (∀i r W,14<=r->nP n (nS (A i) (E i).1) (E i).1 (Db (n+1) (k+(fo i:Nat)) (E i)) W r):=fun i r W hr=>by
          obtain⟨r',rfl⟩:∃r',r=r' +14:=⟨r-14,by omega⟩
          exact trivial
        have HB:Hid (0<=a0/\x23<=67108864):=⟨by omega,by omega⟩
        have CH:Hid (x1=a0+1/\x2=x1+1/\x3=x2+1/\x4=x3+1/\x5=x4+1/\x7=x6+1/\x13=x12+1/\x17=x16+1/\x18=x17+1/\a0<=x5/\x5<=x6/\x6<=x12/\x12<=x16/\x18<=x23):=⟨by omega,by omega,by omega,by omega,by omega,by omega,by omega,by omega,by omega,by omega,by omega,by omega,by omega,by omega⟩
        rw[←ha0]
        clear hT1 hT2 hK g1 g2 g3 g4 g5 g6 g7 hms hml MS CL HF FAM;clear h23 h22 h21 h20 h19 h18 h17 h16 h15 h14 h13 h12 h11 h10 h9 h8 h7 h6 h5 h4 h3 h2 h1 ha0 hej;generalize hF:(fun i r b=>nS (A i) (E i).1 r b)=F at *
        generalize hP:(fun i r W=>nP n (nS (A i) (E i).1) (E i).1 (E i).2 W r)=P at *
        generalize hQ:(fun i r W=>nP n (nS (A i) (E i).1) (E i).1 (Db (n+1) (k+(fo i:Nat)) (E i)) W r)=Q at *
        replace C0:Hid (∀u,P j 0 u->Calls Tryz.prog 45 #[e.1.lv, .int .i64 x5] u fun e' u' =>e' = .returned (.int .i64 x6)/\Q j 0 u' ∧Chg (F j 0) u u'):=by rw[←hF, ← hP, ← hQ];exact C0
        replace C1:Hid (∀u,P j 1 u->Calls Tryz.prog 46 #[e.1.s.x.p, .int .i64 x7] u fun e' u' =>e' = .returned (.int .i64 x8)/\Q j 1 u' ∧Chg (F j 1) u u'):=by rw[←hF, ← hP, ← hQ];exact C1
        replace C2:Hid (∀u,P j 2 u->Calls Tryz.prog 47 #[e.1.s.x.c, .int .i64 x8] u fun e' u' =>e' = .returned (.int .i64 x9)/\Q j 2 u' ∧Chg (F j 2) u u'):=by rw[←hF, ← hP, ← hQ];exact C2
        replace C3:Hid (∀u,P j 3 u->Calls Tryz.prog 48 #[e.1.s.x.k, .int .i64 x9] u fun e' u' =>e' = .returned (.int .i64 x10)/\Q j 3 u' ∧Chg (F j 3) u u'):=by rw[←hF, ← hP, ← hQ];exact C3
        replace C4:Hid (∀u,P j 4 u->Calls Tryz.prog 49 #[e.1.s.x.b, .int .i64 x10] u fun e' u' =>e' = .returned (.int .i64 x11)/\Q j 4 u' ∧Chg (F j 4) u u'):=by rw[←hF, ← hP, ← hQ];exact C4
        replace C5:Hid (∀u,P j 5 u->Calls Tryz.prog 43 #[e.1.s.v, .int .i64 x11] u fun e' u' =>e' = .returned (.int .i64 x12)/\Q j 5 u' ∧Chg (F j 5) u u'):=by rw[←hF, ← hP, ← hQ];exact C5
        replace C6:Hid (∀u,P j 6 u->Calls Tryz.prog 73 #[e.1.vv, .int .i64 x13] u fun e' u' =>e' = .returned (.int .i64 x14)/\Q j 6 u' ∧Chg (F j 6) u u'):=by rw[←hF, ← hP, ← hQ];exact C6
        replace C7:Hid (∀u,P j 7 u->Calls Tryz.prog 47 #[e.1.nv, .int .i64 x14] u fun e' u' =>e' = .returned (.int .i64 x15)/\Q j 7 u' ∧Chg (F j 7) u u'):=by rw[←hF, ← hP, ← hQ];exact C7
        replace C8:Hid (∀u,P j 8 u->Calls Tryz.prog 47 #[e.1.mv, .int .i64 x15] u fun e' u' =>e' = .returned (.int .i64 x16)/\Q j 8 u' ∧Chg (F j 8) u u'):=by rw[←hF, ← hP, ← hQ];exact C8
        replace C9:Hid (∀u,P j 9 u->Calls Tryz.prog 46 #[e.1.o.x.p, .int .i64 x18] u fun e' u' =>e' = .returned (.int .i64 x19)/\Q j 9 u' ∧Chg (F j 9) u u'):=by rw[←hF, ← hP, ← hQ];exact C9
        replace C10:Hid (∀u,P j 10 u->Calls Tryz.prog 47 #[e.1.o.x.c, .int .i64 x19] u fun e' u' =>e' = .returned (.int .i64 x20)/\Q j 10 u' ∧Chg (F j 10) u u'):=by rw[←hF, ← hP, ← hQ];exact C10
        replace C11:Hid (∀u,P j 11 u->Calls Tryz.prog 48 #[e.1.o.x.k, .int .i64 x20] u fun e' u' =>e' = .returned (.int .i64 x21)/\Q j 11 u' ∧Chg (F j 11) u u'):=by rw[←hF, ← hP, ← hQ];exact C11
        replace C12:Hid (∀u,P j 12 u->Calls Tryz.prog 49 #[e.1.o.x.b, .int .i64 x21] u fun e' u' =>e' = .returned (.int .i64 x22)/\Q j 12 u' ∧Chg (F j 12) u u'):=by rw[←hF, ← hP, ← hQ];exact C12
        replace C13:Hid (∀u,P j 13 u->Calls Tryz.prog 43 #[e.1.o.v, .int .i64 x22] u fun e' u' =>e' = .returned (.int .i64 x23)/\Q j 13 u' ∧Chg (F j 13) u u'):=by rw[←hF, ← hP, ← hQ];exact C13
        replace NX:Hid (∀i r W,14<=r->i<m->Q i r W):=by rw[←hQ];exact fun i r W hr _=>NX.out i r W hr
        clear hF hP hQ;have b0:0<=a0:=by have:=CH.out;have:=HB.out;omega
        have b1:a0<=67108864:=by have:=CH.out;have:=HB.out;omega
        have c0:wr.cell? ⟨g,j*23,none⟩=some (.int .i64 e.1.id):=S0.out.cell hf hlt 0 (by omega)
        have f0:wr.frozen? ⟨g,j*23,none⟩=false:=S0.out.frozen 0
        replace S0:=Ag (S0.out.put FM.out hf hlt 0 (by omega) (.int .i64 a0))
        go_upto_region 6 with fail
        rw[show a0+1=x1 by have:=CH.out;omega]
        generalize hW1:wr.setCell ⟨g,j*23,none⟩ (.int .i64 a0)=W1 at *
        clear c0 f0 b0 b1 hW1;have b0:0<=x1:=by have:=CH.out;have:=HB.out;omega
        have b1:x1<=67108864:=by have:=CH.out;have:=HB.out;omega
        have c0:W1.cell? ⟨g,j*23+1,none⟩=some (.int .i64 e.1.te):=S0.out.cell hf hlt 1 (by omega)
        have f0:W1.frozen? ⟨g,j*23+1,none⟩=false:=S0.out.frozen 1
        replace S0:=Ag (S0.out.put FM.out hf hlt 1 (by omega) (.int .i64 x1))
        go_upto_region 8 with fail
        rw[show x1+1=x2 by have:=CH.out;omega]
        generalize hW2:W1.setCell ⟨g,j*23+1,none⟩ (.int .i64 x1)=W2 at *
        clear c0 f0 b0 b1 hW2;have b0:0<=x2:=by have:=CH.out;have:=HB.out;omega
        have b1:x2<=67108864:=by have:=CH.out;have:=HB.out;omega
        have c0:W2.cell? ⟨g,j*23+2,none⟩=some (.int .i64 e.1.vo):=S0.out.cell hf hlt 2 (by omega)
        have f0:W2.frozen? ⟨g,j*23+2,none⟩=false:=S0.out.frozen 2
        replace S0:=Ag (S0.out.put FM.out hf hlt 2 (by omega) (.int .i64 x2))
        go_upto_region 10 with fail
        rw[show x2+1=x3 by have:=CH.out;omega]
        generalize hW3:W2.setCell ⟨g,j*23+2,none⟩ (.int .i64 x2)=W3 at *
        clear c0 f0 b0 b1 hW3;have b0:0<=x3:=by have:=CH.out;have:=HB.out;omega
        have b1:x3<=67108864:=by have:=CH.out;have:=HB.out;omega
        have c0:W3.cell? ⟨g,j*23+3,none⟩=some (.int .i64 e.1.lb):=S0.out.cell hf hlt 3 (by omega)
        have f0:W3.frozen? ⟨g,j*23+3,none⟩=false:=S0.out.frozen 3
        replace S0:=Ag (S0.out.put FM.out hf hlt 3 (by omega) (.int .i64 x3))
        go_upto_region 12 with fail
        rw[show x3+1=x4 by have:=CH.out;omega]
        generalize hW4:W3.setCell ⟨g,j*23+3,none⟩ (.int .i64 x3)=W4 at *
        clear c0 f0 b0 b1 hW4;have b0:0<=x4:=by have:=CH.out;have:=HB.out;omega
        have b1:x4<=67108864:=by have:=CH.out;have:=HB.out;omega
        have c0:W4.cell? ⟨g,j*23+4,none⟩=some (.int .i64 e.1.lt):=S0.out.cell hf hlt 4 (by omega)
        have f0:W4.frozen? ⟨g,j*23+4,none⟩=false:=S0.out.frozen 4
        replace S0:=Ag (S0.out.put FM.out hf hlt 4 (by omega) (.int .i64 x4))
        go_upto_region 14 with fail
        rw[show x4+1=x5 by have:=CH.out;omega]
        generalize hW5:W4.setCell ⟨g,j*23+4,none⟩ (.int .i64 x4)=W5 at *
        clear c0 f0 b0 b1 hW5;have d0:W5.cell? ⟨g,j*23+5,none⟩=some e.1.lv:=S0.out.cell hf hlt 5 (by omega)
        go_wp2_with fail;refine(C0.out _ (S0.out.now hlt)).mono ?_
        rintro e6 W6 ⟨rfl,q6,g6⟩
        replace S0:=Ag (S0.out.call FM.out hlt q6 g6)
        clear d0 q6 g6 C0;have b0:0<=x6:=by have:=CH.out;have:=HB.out;omega
        have b1:x6<=67108864:=by have:=CH.out;have:=HB.out;omega
        have c0:W6.cell? ⟨g,j*23+6,none⟩=some (.bool e.1.s.x.lf):=S0.out.cell hf hlt 6 (by omega)
        have f0:W6.frozen? ⟨g,j*23+6,none⟩=false:=S0.out.frozen 6
        replace S0:=Ag (S0.out.put FM.out hf hlt 6 (by omega) (.bool (x6%3==0)))
        go_upto_region 17 with fail
        rw[show x6+1=x7 by have:=CH.out;omega]
        generalize hW7:W6.setCell ⟨g,j*23+6,none⟩ (.bool (x6%3==0))=W7 at *
        clear c0 f0 b0 b1 hW7;have d0:W7.cell? ⟨g,j*23+7,none⟩=some e.1.s.x.p:=S0.out.cell hf hlt 7 (by omega)
        go_wp2_with fail;refine(C1.out _ (S0.out.now hlt)).mono ?_
        rintro e8 W8 ⟨rfl,q8,g8⟩
        replace S0:=Ag (S0.out.call FM.out hlt q8 g8)
        clear d0 q8 g8 C1;have d0:W8.cell? ⟨g,j*23+8,none⟩=some e.1.s.x.c:=S0.out.cell hf hlt 8 (by omega)
        go_wp2_with fail;refine(C2.out _ (S0.out.now hlt)).mono ?_
        rintro e9 W9 ⟨rfl,q9,g9⟩
        replace S0:=Ag (S0.out.call FM.out hlt q9 g9)
        clear d0 q9 g9 C2;have d0:W9.cell? ⟨g,j*23+9,none⟩=some e.1.s.x.k:=S0.out.cell hf hlt 9 (by omega)
        go_wp2_with fail;refine(C3.out _ (S0.out.now hlt)).mono ?_
        rintro e10 W10 ⟨rfl,q10,g10⟩
        replace S0:=Ag (S0.out.call FM.out hlt q10 g10)
        clear d0 q10 g10 C3;have d0:W10.cell? ⟨g,j*23+10,none⟩=some e.1.s.x.b:=S0.out.cell hf hlt 10 (by omega)
        go_wp2_with fail;refine(C4.out _ (S0.out.now hlt)).mono ?_
        rintro e11 W11 ⟨rfl,q11,g11⟩
        replace S0:=Ag (S0.out.call FM.out hlt q11 g11)
        clear d0 q11 g11 C4;have d0:W11.cell? ⟨g,j*23+11,none⟩=some e.1.s.v:=S0.out.cell hf hlt 11 (by omega)
        go_wp2_with fail;refine(C5.out _ (S0.out.now hlt)).mono ?_
        rintro e12 W12 ⟨rfl,q12,g12⟩
        replace S0:=Ag (S0.out.call FM.out hlt q12 g12)
        clear d0 q12 g12 C5;have b0:0<=x12:=by have:=CH.out;have:=HB.out;omega
        have b1:x12<=67108864:=by have:=CH.out;have:=HB.out;omega
        have c0:W12.cell? ⟨g,j*23+12,none⟩=some (.int .i64 e.1.ro):=S0.out.cell hf hlt 12 (by omega)
        have f0:W12.frozen? ⟨g,j*23+12,none⟩=false:=S0.out.frozen 12
        replace S0:=Ag (S0.out.put FM.out hf hlt 12 (by omega) (.int .i64 x12))
        go_upto_region 24 with fail
        rw[show x12+1=x13 by have:=CH.out;omega]
        generalize hW13:W12.setCell ⟨g,j*23+12,none⟩ (.int .i64 x12)=W13 at *
        clear c0 f0 b0 b1 hW13;have d0:W13.cell? ⟨g,j*23+13,none⟩=some e.1.vv:=S0.out.cell hf hlt 13 (by omega)
        go_wp2_with fail;refine(C6.out _ (S0.out.now hlt)).mono ?_
        rintro e14 W14 ⟨rfl,q14,g14⟩
        replace S0:=Ag (S0.out.call FM.out hlt q14 g14)
        clear d0 q14 g14 C6;have d0:W14.cell? ⟨g,j*23+14,none⟩=some e.1.nv:=S0.out.cell hf hlt 14 (by omega)
        go_wp2_with fail;refine(C7.out _ (S0.out.now hlt)).mono ?_
        rintro e15 W15 ⟨rfl,q15,g15⟩
        replace S0:=Ag (S0.out.call FM.out hlt q15 g15)
        clear d0 q15 g15 C7;have d0:W15.cell? ⟨g,j*23+15,none⟩=some e.1.mv:=S0.out.cell hf hlt 15 (by omega)
        go_wp2_with fail;refine(C8.out _ (S0.out.now hlt)).mono ?_
        rintro e16 W16 ⟨rfl,q16,g16⟩
        replace S0:=Ag (S0.out.call FM.out hlt q16 g16)
        clear d0 q16 g16 C8;have b0:0<=x16:=by have:=CH.out;have:=HB.out;omega
        have b1:x16<=67108864:=by have:=CH.out;have:=HB.out;omega
        have c0:W16.cell? ⟨g,j*23+16,none⟩=some (.int .i64 e.1.cm):=S0.out.cell hf hlt 16 (by omega)
        have f0:W16.frozen? ⟨g,j*23+16,none⟩=false:=S0.out.frozen 16
        replace S0:=Ag (S0.out.put FM.out hf hlt 16 (by omega) (.int .i64 x16))
        go_upto_region 29 with fail
        rw[show x16+1=x17 by have:=CH.out;omega]
        generalize hW17:W16.setCell ⟨g,j*23+16,none⟩ (.int .i64 x16)=W17 at *
        clear c0 f0 b0 b1 hW17;have b0:0<=x17:=by have:=CH.out;have:=HB.out;omega
        have b1:x17<=67108864:=by have:=CH.out;have:=HB.out;omega
        have c0:W17.cell? ⟨g,j*23+17,none⟩=some (.bool e.1.o.x.lf):=S0.out.cell hf hlt 17 (by omega)
        have f0:W17.frozen? ⟨g,j*23+17,none⟩=false:=S0.out.frozen 17
        replace S0:=Ag (S0.out.put FM.out hf hlt 17 (by omega) (.bool (x17%3==0)))
        go_upto_region 31 with fail
        rw[show x17+1=x18 by have:=CH.out;omega]
        generalize hW18:W17.setCell ⟨g,j*23+17,none⟩ (.bool (x17%3==0))=W18 at *
        clear c0 f0 b0 b1 hW18;have d0:W18.cell? ⟨g,j*23+18,none⟩=some e.1.o.x.p:=S0.out.cell hf hlt 18 (by omega)
        go_wp2_with fail;refine(C9.out _ (S0.out.now hlt)).mono ?_
        rintro e19 W19 ⟨rfl,q19,g19⟩
        replace S0:=Ag (S0.out.call FM.out hlt q19 g19)
        clear d0 q19 g19 C9;have d0:W19.cell? ⟨g,j*23+19,none⟩=some e.1.o.x.c:=S0.out.cell hf hlt 19 (by omega)
        go_wp2_with fail;refine(C10.out _ (S0.out.now hlt)).mono ?_
        rintro e20 W20 ⟨rfl,q20,g20⟩
        replace S0:=Ag (S0.out.call FM.out hlt q20 g20)
        clear d0 q20 g20 C10;have d0:W20.cell? ⟨g,j*23+20,none⟩=some e.1.o.x.k:=S0.out.cell hf hlt 20 (by omega)
        go_wp2_with fail;refine(C11.out _ (S0.out.now hlt)).mono ?_
        rintro e21 W21 ⟨rfl,q21,g21⟩
        replace S0:=Ag (S0.out.call FM.out hlt q21 g21)
        clear d0 q21 g21 C11;have d0:W21.cell? ⟨g,j*23+21,none⟩=some e.1.o.x.b:=S0.out.cell hf hlt 21 (by omega)
        go_wp2_with fail;refine(C12.out _ (S0.out.now hlt)).mono ?_
        rintro e22 W22 ⟨rfl,q22,g22⟩
        replace S0:=Ag (S0.out.call FM.out hlt q22 g22)
        clear d0 q22 g22 C12;have d0:W22.cell? ⟨g,j*23+22,none⟩=some e.1.o.v:=S0.out.cell hf hlt 22 (by omega)
        go_wp2_with fail;refine(C13.out _ (S0.out.now hlt)).mono ?_
        rintro e23 W23 ⟨rfl,q23,g23⟩
        replace S0:=Ag (S0.out.call FM.out hlt q23 g23)
        clear d0 q23 g23 C13;have FN:=Ag (S0.out.next (FC.out _ FE.out) rfl (fun i r W hr hi=>NX.out i r W hr hi))
        go_wp2;go_roundw
        case rel=>exact⟨j+1,by omega,by go_num,by rw[EN.out],FN⟩
        case measure=>simp[intOf];omega
      · have hjl : j = m := by omega
        subst hjl;go_wp2;go_ret;exact⟨An (by rw[hTOT]),FIN.out _ HF.out⟩
end
end Go.Proofs.YtkcaelfkcepdkaaGreat
