/-
  Marks of whole trees: markTree over a tree in memory of its own.
  Contracts of slices.Grow and slices.Concat at messages, and of the program's msgsOfKid.
  The library's Grow and Concat, over trees and over numbers: any number of parts.
  The program's slices.Clone, of pairs, cuts, messages and kids.
-/
import Derived.Test.YtkcaelfkcepdkaaGreatOfNote15
import Derived.Deep.DeepCutAuto
import Derived.Deep.CutBlock
import Derived.Test.YtkcaelfkcepdkaaGreatOfNote7
import Derived.Lib.Walk
import Derived.Lib.SliceRun
import Derived.Lib.AppendZerosOnto
import Derived.Test.YtkcaelfkcepdkaaGreatOfNote13
import Derived.Test.YtkcaelfkcepdkaaGreatOfNote8
import Derived.Test.YtkcaelfkcepdkaaGreatOfNote12
import Derived.Lib.BufferMore
namespace Go.Proofs.YtkcaelfkcepdkaaGreat
set_option maxRecDepth 100000
set_option maxHeartbeats 8000000
section
open Go.RowKit

theorem Iu (l:List TV) (b:Bool):∀i,i<l.length->(AA l).set (i*5) (.bool b)=AA (l.set i ⟨b,(Ak l i).p,(Ak l i).c,(Ak l i).k,(Ak l i).b⟩):=by
 induction l with
 |nil=>intro i h;simp at h
 |cons p l ih=>
  intro i h
  cases i with
  |zero=>simp[Cb,Ak]
  |succ i=>
   have:=ih i (by simpa using h)
   rw[Cb,List.set_cons_succ,Cb,show(i+1)*5=i*5+1+1+1+1+1 by omega]
   simp only[List.set_cons_succ,this]
   simp[Ak]
theorem N5 {w:World} {b e s n:Nat} {v:Value} {xs:List Value} (h:Ac w b e s v n xs) {g:Nat} (hg:wrB v g):∃cur,w.heap[g]? =some (.cells cur e (0,0)):=by
 obtain⟨k,cap,rfl,hc⟩:=hg
 rcases h with h|⟨_,_,g',h'⟩
 ·exact(RJ h (g:=g) rfl).2
 ·simp at h';omega
theorem As {w:World} {b b' e e' s s' n n' :Nat} {v v' :Value} {xs xs' :List Value} (h:Ac w b e s v n xs) (h' :Ac w b' e' s' v' n' xs') (ht:e≠e') {g:Nat} (hg:wrB v g):¬wrB v' g:=fun hg' =>by
 obtain⟨c,hc⟩:=N5 h hg
 obtain⟨c',hc'⟩:=N5 h' hg'
 rw[hc] at hc'
 simp at hc'
 exact ht hc'.2

def Kg (n:Nat):Prop:=∀(v:Value) (xs:List TV) (ts:List Tr) (K:Nat->Nat->Prop) (k:Int) (w:World),xs.length=ts.length->Ac w 0 69 5 v xs.length (AA xs)→
 (∀i,i<xs.length->Aw n w (K i) (Ak xs i) (ts.getD i AR))->(∀i g,i<xs.length->K i g->¬wrB v g)->(∀i j g,i<j->j<xs.length->K i g->¬K j g)->0<=k->k+(B6 n ts:Nat)<=67108864→
 Calls Tryz.prog 48 #[v, .int .i64 k] w fun e w' =>e= .returned (.int .i64 (k+(B6 n ts:Nat)))∧
  (∃ys:List TV,ys.length=xs.length/\Ac w' 0 69 5 v ys.length (AA ys)/\∀i,i<xs.length->Aw n w' (K i) (Ak ys i) ((Cn n k ts).getD i AR))/\Chg (fun g=>wrB v g∨∃i,i<xs.length/\K i g) w w'

structure JI (n:Nat) (v:Value) (m:Nat) (ts:List Tr) (K:Nat->Nat->Prop) (k:Int) (w wr:World) (j:Nat) (ys:List TV):Prop where
 len:ys.length=m
 own:Ac wr 0 69 5 v m (AA ys)
 ahead:∀i,i<j->i<m->Aw n wr (K i) (Ak ys i) ((Cn n k ts).getD i AR)
 rest:∀i,j<=i->i<m->Aw n wr (K i) (Ak ys i) (ts.getD i AR)
 chg:Chg (fun g=>wrB v g∨∃i,i<m/\K i g) w wr

theorem JI.step {n m j g cap:Nat} {ts:List Tr} {K:Nat->Nat->Prop} {k:Int} {w wr w5:World} {ys:List TV} {flag:Bool} (h:JI n (.slice (some ⟨g,0,none⟩) m cap) m ts K k w wr j ys) (hj:j<m)
  (hv:∀i g',i<m->K i g' ->¬wrB (.slice (some ⟨g,0,none⟩) m cap) g') (hd:∀i j g',i<j->j<m->K i g' ->¬K j g') (hcap:0<cap)
  (hc:Chg (K j) (wr.setCell ⟨g,j*5,none⟩ (.bool flag)) w5)
  (ht:Aw n w5 (K j) ⟨flag,(Ak ys j).p,(Ak ys j).c,(Ak ys j).k,(Ak ys j).b⟩ ((Cn n k ts).getD j AR)) :
  JI n (.slice (some ⟨g,0,none⟩) m cap) m ts K k w w5 (j+1) (ys.set j ⟨flag,(Ak ys j).p,(Ak ys j).c,(Ak ys j).k,(Ak ys j).b⟩):=by
 have hg:wrB (.slice (some ⟨g,0,none⟩) m cap) g:=⟨_,_,rfl,hcap⟩
 have c1:Chg (fun g' =>g' =g) wr (wr.setCell ⟨g,j*5,none⟩ (.bool flag)):=(Chg.refl (fun g' =>g' =g) wr).setAt g (j*5) rfl _
 have hl:=h.len
 have ow:wr.ownsRow 0 69 5 (.slice (some ⟨g,0,none⟩) m cap) m (AA ys):=by
  rcases h.own with h|⟨h,_⟩
  ·exact h
  ·omega
 have o1:=(ow.stored (j*5) (.bool flag)).1
 rw[Iu ys flag j (by omega)] at o1
 have o5:=Cw o1 hc (fun g' hg' e=>hv j g' hj e ⟨_,_,by simp[Value.ownBlock] at hg';subst hg';rfl,hcap⟩)
 have other:∀(i:Nat) (T:Tr) (x:TV),i<m->i≠j->Aw n wr (K i) x T->Aw n w5 (K i) x T:=fun i T x hi hij t=>
  (t.chg c1 (fun g' hg' e=>hv i g' hi hg' (by subst e;exact hg))).chg hc (fun g' hg' e=>by
   rcases Nat.lt_or_gt_of_ne hij with h|h
   ·exact hd i j g' h hj hg' e
   ·exact hd j i g' h hi e hg')
 have tv:∀i,i≠j->Ak (ys.set j ⟨flag,(Ak ys j).p,(Ak ys j).c,(Ak ys j).k,(Ak ys j).b⟩) i=Ak ys i:=fun i hi=>by
  simp[Ak,List.getD,List.getElem?_set_ne (Ne.symm hi)]
 have tj:Ak (ys.set j ⟨flag,(Ak ys j).p,(Ak ys j).c,(Ak ys j).k,(Ak ys j).b⟩) j=⟨flag,(Ak ys j).p,(Ak ys j).c,(Ak ys j).k,(Ak ys j).b⟩:=by
  simp[Ak,List.getD,hl,hj]
 refine⟨by simp[hl], .inl o5,fun i hi him=> ?_,fun i hi him=> ?_,(h.chg.trans c1 (fun g' _ e=> .inl (by subst e;exact hg))).trans hc (fun g' _ e=> .inr ⟨j,hj,e⟩)⟩
 ·by_cases e:i=j
  ·subst e;rw[tj];exact ht
  ·rw[tv i e];exact other i _ _ him e (h.ahead i (by omega) him)
 ·rw[tv i (by omega)];exact other i _ _ him (by omega) (h.rest i (by omega) him)

theorem JT (n:Nat) (H:∀n',n=n' +1->Kg n'):Kg n:=by
 intro v xs ts K k w hl ho hkid hv hd hk0 hk1;obtain⟨a,cap,hvv⟩:=ho.slice
 subst hvv;have hlen:xs.length<=67108864:=by
  have:ts.length<=B6 n ts:=by unfold B6;omega
  omega
 have MS:Hid (∀i,i<xs.length->CX n ts (i+1)=CX n ts i+(1+mkT n (ts.getD i AR))):=fun i hi=>Jo n ts i (by omega)
 have ML:Hid (∀i,i<=xs.length->CX n ts i<=B6 n ts):=fun i hi=>Oo n ts i (by omega)
 have MF:Hid (CX n ts xs.length=B6 n ts):=by
  show _=_
  rw[hl,JF]
 have M0:Hid (CX n ts 0=0):=by
  show _=_
  simp[CX]
 have MA:Hid (∀i,i<xs.length->(Cn n k ts).getD i AR=Da ((k+(CX n ts i:Nat))%3==0) (Ca n (k+(CX n ts i:Nat)+1) (ts.getD i AR))):=fun i hi=>Jl n k ts i (by omega)
 have H0:Hid (JI n (.slice a xs.length cap) xs.length ts K k w w 0 xs):=⟨rfl,ho,fun i hi=>absurd hi (Nat.not_lt_zero _),fun i _ hi=>hkid i hi,Chg.refl _ _⟩
 have HV:Hid _:=And.intro hv hd
 clear ho hkid hv hd hl;generalize B6 n ts=TOT at *
 generalize hfo:CX n ts=fo at *
 generalize xs.length=m at *
 have hm63:(m:Int)<=67108864:=by omega
 clear hfo;go_enter Tryz.func48,Tryz.ntmps48
 go_wp2;go_loopw [1,5] (fun kk i wr=>∃(j:Nat) (ys:List TV),j<=m/\i= .int .i64 j/\kk= .int .i64 (k+(fo j:Nat))/\Hid (JI n (.slice a m cap) m ts K k w wr j ys)) (fun _ i _=>m-(intOf i).toNat)
 case atStart=>exact⟨0,xs,Nat.zero_le _,rfl,by rw[M0.out];simp,H0⟩
 case round=>
  obtain⟨j,ys,hj,rfl,rfl,HF⟩:=hrel
  by_cases hlt:j<m
  ·have ow:wr.ownsRow 0 69 5 (.slice a m cap) m (AA ys):=by
    rcases HF.out.own with h|⟨h,_⟩
    ·exact h
    ·omega
   obtain⟨g,hag,hcap⟩:∃g,a=some ⟨g,0,none⟩/\0<cap:=by
    obtain⟨_,⟨e,e2⟩|⟨g,cap',cur,e,_,_,hle,_⟩⟩:=id ow
    ·omega
    ·simp at e
     exact⟨g,e.1,by omega⟩
   subst hag;have hyl:=HF.out.len
   have hms:=MS.out j hlt
   have hml:=ML.out (j+1) (by omega)
   have HMA:=MA.out j hlt
   have WT:=HF.out.rest j (Nat.le_refl _) hlt
   cases n with
   |zero=>exact WT.elim
   |succ n=>
   have hat:=Cz ys j (by omega)
   have c0:=(ow.cellAt (j*5) (by omega)).trans hat.1
   have f0:=ow.frozenAt (j*5)
   have o1:=(ow.stored (j*5) (.bool ((k+(fo j:Int))%3==0))).1
   rw[Iu ys _ j (by omega)] at o1
   have hgw:wrB (.slice (some ⟨g,0,none⟩) m cap) g:=⟨_,_,rfl,hcap⟩
   have LK:Hid (∀u:World,Chg (K j) (wr.setCell ⟨g,j*5,none⟩ (.bool ((k+(fo j:Int))%3==0))) u->u.cell? ⟨g,j*5+1,none⟩=some (Ak ys j).p/\u.cell? ⟨g,j*5+2,none⟩=some (Ak ys j).c/\u.cell? ⟨g,j*5+3,none⟩=some (Ak ys j).k/\u.cell? ⟨g,j*5+4,none⟩=some (Ak ys j).b):=fun u hu=>by
    have ou:=Cw o1 hu (fun g' hg' e=>HV.out.1 j g' hlt e ⟨_,_,by simp[Value.ownBlock] at hg';subst hg';rfl,hcap⟩)
    have hat2:=Cz (ys.set j ⟨((k+(fo j:Int))%3==0),(Ak ys j).p,(Ak ys j).c,(Ak ys j).k,(Ak ys j).b⟩) j (by simp;omega)
    have tj:Ak (ys.set j ⟨((k+(fo j:Int))%3==0),(Ak ys j).p,(Ak ys j).c,(Ak ys j).k,(Ak ys j).b⟩) j=⟨((k+(fo j:Int))%3==0),(Ak ys j).p,(Ak ys j).c,(Ak ys j).k,(Ak ys j).b⟩:=by
     simp[Ak,List.getD,hyl,hlt]
    rw[tj] at hat2
    exact⟨(ou.cellAt (j*5+1) (by omega)).trans hat2.2.1,(ou.cellAt (j*5+2) (by omega)).trans hat2.2.2.1,(ou.cellAt (j*5+3) (by omega)).trans hat2.2.2.2.1,(ou.cellAt (j*5+4) (by omega)).trans hat2.2.2.2.2⟩
   have cg:Chg (fun g' =>g' =g) wr (wr.setCell ⟨g,j*5,none⟩ (.bool ((k+(fo j:Int))%3==0))):=(Chg.refl (fun g' =>g' =g) wr).setAt g (j*5) rfl _
   have WT1:=WT.chg cg (fun g' hg' e=>HV.out.1 j g' hlt hg' (by subst e;exact hgw))
   obtain⟨t1,t2,t3,t4,t5,xs2,K2,u1,u2,u3,u4,u5⟩:=WT1
   have STEP:Hid (∀w5:World,Chg (K j) (wr.setCell ⟨g,j*5,none⟩ (.bool ((k+(fo j:Int))%3==0))) w5->Aw (n+1) w5 (K j) ⟨((k+(fo j:Int))%3==0),(Ak ys j).p,(Ak ys j).c,(Ak ys j).k,(Ak ys j).b⟩ ((Cn (n+1) k ts).getD j AR)->∃zs,JI (n+1) (.slice (some ⟨g,0,none⟩) m cap) m ts K k w w5 (j+1) zs):=fun w5 h1 h2=>⟨_,HF.out.step hlt HV.out.1 HV.out.2 hcap h1 h2⟩
   rw[HMA] at STEP
   have HH:Hid (Kg n):=H n rfl
   have hme:=CD n (ts.getD j AR)
   rw[hme] at hms
   have MSE:Hid _:=hms
   obtain⟨d1,d2,d3,d4⟩:=LK.out _ (Chg.refl _ _)
   generalize hW1:(wr.setCell ⟨g,j*5,none⟩ (.bool ((k+(fo j:Int))%3==0)))=W1 at *
   have E1:Hid (wr.setCell ⟨g,j*5,none⟩ (.bool ((k+(fo j:Int))%3==0))=W1):=hW1
   clear hW1;generalize Ak ys j=y at *
   obtain⟨yl,yp,yc,yk,yb⟩:=y
   simp only at t1 t2 t3 t4 t5 u2 u4 d1 d2 d3 d4 LK STEP c0
   generalize ts.getD j AR=t at *
   have hp0:0<=k+(fo j:Int):=by omega
   have hp1:k+(fo j:Int)+1+2*(t.pairs.length:Int)+t.cuts.length+(B6 n t.kids:Nat)+3*(t.buf.length:Int)<=67108864:=by omega
   have HP:Hid _:=Fp 0 yp t.pairs (k+(fo j:Nat)+1) W1 t2 (by omega) (by omega) (by omega)
   have TT:Hid _:=And.intro t3 (And.intro t4 (And.intro t5 (And.intro u1 (And.intro u2 (And.intro u3 (And.intro u4 (And.intro u5 t2)))))))
   clear hms hml WT t1 t2 t3 t4 t5 u1 u2 u3 u4 u5 hat o1 ow cg hme HMA H HF MA MS ML hgw hyl;go_upto_region 6 with fail
   rw[E1.out]
   go_wp2_with fail;refine Calls.mono HP.out ?_
   rintro e v1 ⟨rfl,p1,g1⟩
   obtain⟨t3,t4,t5,u1,u2,u3,u4,u5,t2⟩:=TT.out
   have G1:Hid (Chg (K j) W1 v1):=g1.mono (fun g' _ h=>t5 g' (.inl h))
   have a3:=t3.chg g1 (fun g' hg' e=>As t3 t2 (by decide) hg' e)
   have a4:=t4.chg g1 (fun g' hg' e=>As t4 t2 (by decide) hg' e)
   have a2:=u2.chg g1 (fun g' hg' e=>As u2 t2 (by decide) hg' e)
   have a5:∀i,i<xs2.length->Aw n v1 (K2 i) (Ak xs2 i) (t.kids.getD i AR):=fun i hi=>(u3 i hi).chg g1 (fun g' hg' e=>(u4 i g' hi hg').2 (.inl e))
   clear d1 d2 d3 d4;obtain⟨d1,d2,d3,d4⟩:=LK.out v1 G1.out
   have HI:Hid _:=Ea 0 yc t.cuts (k+(fo j:Nat)+1+2*(t.pairs.length:Int)) v1 a3 (by omega) (by omega) (by omega)
   have T1:Hid _:=And.intro p1 (And.intro a3 (And.intro a4 (And.intro a2 a5)))
   clear p1 g1 a2 a3 a4 a5 t2 t3 t4 t5 u1 u2 u3 u4 u5 HP;go_wp2_with fail;refine Calls.mono HI.out ?_
   rintro e v2 ⟨rfl,p2,g2⟩
   obtain⟨t3,t4,t5,u1,u2,u3,u4,u5,t2⟩:=TT.out
   obtain⟨p1,a3,a4,a2,a5⟩:=T1.out
   have G2:Hid (Chg (K j) W1 v2):=G1.out.trans (g2.mono (G:=K j) (fun g' _ h=>t5 g' (.inr (.inl h)))) (fun _ _ h=>h)
   have p1:=p1.chg g2 (fun g' hg' e=>As p1 a3 (by decide) hg' e)
   have a4:=a4.chg g2 (fun g' hg' e=>As a4 a3 (by decide) hg' e)
   have a2:=a2.chg g2 (fun g' hg' e=>As a2 a3 (by decide) hg' e)
   have a5:∀i,i<xs2.length->Aw n v2 (K2 i) (Ak xs2 i) (t.kids.getD i AR):=fun i hi=>(a5 i hi).chg g2 (fun g' hg' e=>(u4 i g' hi hg').2 (.inr (.inl e)))
   clear d1 d2 d3 d4;obtain⟨d1,d2,d3,d4⟩:=LK.out v2 G2.out
   have HT:Hid _:=HH.out yk xs2 t.kids K2 (k+(fo j:Nat)+1+2*(t.pairs.length:Int)+(t.cuts.length:Int)) v2 u1 a2 a5 (fun i g' hi hg' e=>(u4 i g' hi hg').2 (.inr (.inr (.inr e)))) u5 (by omega) (by omega)
   have T2:Hid _:=And.intro p1 (And.intro p2 (And.intro a4 a2))
   clear p1 p2 g2 a2 a3 a4 a5 t2 t3 t4 t5 u1 u2 u3 u4 u5 HI T1 G1;go_wp2_with fail;refine Calls.mono HT.out ?_
   rintro e v3 ⟨rfl,⟨zs,z1,z2,z3⟩,g3⟩
   obtain⟨t3,t4,t5,u1,u2,u3,u4,u5,t2⟩:=TT.out
   obtain⟨p1,p2,a4,a2⟩:=T2.out
   have G3:Hid (Chg (K j) W1 v3):=G2.out.trans (g3.mono (G:=K j) (fun g' _ h=>by
    rcases h with h|⟨i,hi,h⟩
    ·exact t5 g' (.inr (.inr (.inr h)))
    ·exact(u4 i g' hi h).1)) (fun _ _ h=>h)
   have ne3:∀(g' :Nat),(wrB yp g' ∨wrB yc g' ∨wrB yb g')->¬wrB yk g' ->¬(wrB yk g' ∨∃i,i<xs2.length/\K2 i g'):=fun g' h hn e=>by
    rcases e with e|⟨i,hi,e⟩
    ·exact hn e
    ·exact(u4 i g' hi e).2 (by rcases h with h|h|h;exact .inl h;exact .inr (.inl h);exact .inr (.inr (.inl h)))
   have p1:=p1.chg g3 (fun g' hg' =>ne3 g' (.inl hg') (As p1 a2 (by decide) hg'))
   have p2:=p2.chg g3 (fun g' hg' =>ne3 g' (.inr (.inl hg')) (As p2 a2 (by decide) hg'))
   have a4:=a4.chg g3 (fun g' hg' =>ne3 g' (.inr (.inr hg')) (As a4 a2 (by decide) hg'))
   clear d1 d2 d3 d4;obtain⟨d1,d2,d3,d4⟩:=LK.out v3 G3.out
   have HM:Hid _:=Gl 0 yb t.buf (k+(fo j:Nat)+1+2*(t.pairs.length:Int)+(t.cuts.length:Int)+(B6 n t.kids:Nat)) v3 a4 (by omega) (by omega) (by omega)
   have T3:Hid _:=And.intro p1 (And.intro p2 (And.intro a4 (And.intro z1 (And.intro z2 z3))))
   clear p1 p2 g3 a2 a4 z1 z2 z3 t2 t3 t4 t5 u1 u2 u3 u4 u5 HT T2 G2 ne3 HH;go_wp2_with fail;refine Calls.mono HM.out ?_
   rintro e v4 ⟨rfl,p4,g4⟩
   obtain⟨t3,t4,t5,u1,u2,u3,u4,u5,t2⟩:=TT.out
   obtain⟨p1,p2,a4,z1,z2,z3⟩:=T3.out
   have G4:Hid (Chg (K j) W1 v4):=G3.out.trans (g4.mono (G:=K j) (fun g' _ h=>t5 g' (.inr (.inr (.inl h))))) (fun _ _ h=>h)
   have p1:=p1.chg g4 (fun g' hg' e=>As p1 a4 (by decide) hg' e)
   have p2:=p2.chg g4 (fun g' hg' e=>As p2 a4 (by decide) hg' e)
   have z2:=z2.chg g4 (fun g' hg' e=>As z2 a4 (by decide) hg' e)
   have z3:∀i,i<xs2.length->Aw n v4 (K2 i) (Ak zs i) ((Cn n (k+(fo j:Nat)+1+2*(t.pairs.length:Int)+(t.cuts.length:Int)) t.kids).getD i AR):=fun i hi=>(z3 i hi).chg g4 (fun g' hg' e=>(u4 i g' hi hg').2 (.inr (.inr (.inl e))))
   have TJ:Aw (n+1) v4 (K j) ⟨((k+(fo j:Int))%3==0),yp,yc,yk,yb⟩ (Da ((k+(fo j:Nat))%3==0) (Ca (n+1) (k+(fo j:Nat)+1) t)):=by
    rw[Fo]
    refine⟨rfl, ?_, ?_, ?_,t5,zs,K2, ?_,z2, ?_, ?_, ?_⟩
    ·show Ac v4 0 _ 2 yp (Bn _ _).length (AF (Bn _ _))
     rw[Be];exact p1
    ·show Ac v4 0 _ 1 yc (AS _ _).length (Am (AS _ _))
     rw[AO];exact p2
    ·show Ac v4 0 _ 3 yb (Bl _ _).length (AW (Bl _ _))
     rw[Bd];exact p4
    ·show zs.length=(Cn _ _ _).length
     rw[DF,z1,u1]
    ·exact fun i hi=>z3 i (by omega)
    ·exact fun i g' hi=>u4 i g' (by omega)
    ·exact fun i j' g' hij hj' =>u5 i j' g' hij (by omega)
   have FIN:Hid _:=STEP.out v4 G4.out TJ
   clear p1 p2 p4 g4 a4 z1 z2 z3 t2 t3 t4 t5 u1 u2 u3 u4 u5 HM T3 G3 G4 TT TJ STEP LK d1 d2 d3 d4;go_wp2;go_roundw
   case rel=>
    obtain⟨zs',hz⟩:=FIN.out
    exact⟨j+1,zs',by omega,by go_num,by rw[MSE.out];congr 1;omega,hz⟩
   case measure=>simp[intOf];omega
  ·have hjl:j=m:=by omega
   subst hjl;have E:Hid (fo j=TOT):=MF
   go_wp2;go_ret;refine⟨An (by rw[E.out]),⟨ys,HF.out.len,by rw[HF.out.len];exact HF.out.own,fun i hi=>HF.out.ahead i hi hi⟩,HF.out.chg⟩

theorem Gx:∀n,Kg n
 |0=>JT 0 (fun _ h=>by cases h)
 |n+1=>JT (n+1) (fun n' h=>by cases h;exact Gx n)

theorem ME (n:Nat) (x:TV) (T:Tr) (F:Nat->Prop) (k:Int) (w:World) (ht:Aw n w F x T) (hF:∀g,F g->g<w.heap.size) (hk0:0<=k) (hk1:k+(mkT n T:Nat)<=67108864) :
  Calls Tryz.prog 104 #[x.val, .int .i64 k] w fun e w' =>e= .returned (.int .i64 (k+(mkT n T:Nat)))/\Aw n w' F x (Ca n k T)/\Chg F w w' :=by
 cases n with
 |zero=>exact ht.elim
 |succ n=>
 obtain⟨yl,yp,yc,yk,yb⟩:=x
 have hme:=CD n T
 rw[hme] at hk1 ⊢
 have BN:Hid (Below w.heap.size w (w.alloc (.cells #[.bool yl,yp,yc,yk,yb] 69))):=Rr _ _
 have N1:=heap_alloc_new w (.cells #[.bool yl,yp,yc,yk,yb] 69)
 have ht1:=ht.below BN.out
 have LK:Hid (∀u:World,Chg F (w.alloc (.cells #[.bool yl,yp,yc,yk,yb] 69)) u->∀j,u.cell? ⟨w.heap.size,j,none⟩= #[Value.bool yl,yp,yc,yk,yb][j]?):=fun u hu j=>Aa (Al N1 hu (fun h=>by have:=hF _ h;omega))
 have d1:=LK.out _ (Chg.refl _ _)
 generalize hW1:w.alloc (.cells #[.bool yl,yp,yc,yk,yb] 69)=W1 at *
 have E1:Hid (w.alloc (.cells #[.bool yl,yp,yc,yk,yb] 69)=W1):=hW1
 obtain⟨t1,t2,t3,t4,t5,xs2,K2,u1,u2,u3,u4,u5⟩:=ht1
 simp only at t1 t2 t3 t4 t5 u2 u4
 have HP:Hid _:=Fp 0 yp T.pairs k W1 t2 (by omega) (by omega) (by omega)
 have TT:Hid _:=And.intro t3 (And.intro t4 (And.intro t5 (And.intro u1 (And.intro u2 (And.intro u3 (And.intro u4 (And.intro u5 (And.intro t2 t1))))))))
 clear t1 t2 t3 t4 t5 u1 u2 u3 u4 u5 ht hW1 N1 hF hme;show Calls Tryz.prog 104 #[.agg #[.bool yl,yp,yc,yk,yb], .int .i64 k] w _
 go_enter Tryz.func104,Tryz.ntmps104
 go_upto_region 1 with fail
 rw[E1.out]
 go_wp2_with fail;refine Calls.mono HP.out ?_
 rintro e v1 ⟨rfl,p1,g1⟩
 obtain⟨t3,t4,t5,u1,u2,u3,u4,u5,t2,t1⟩:=TT.out
 have G1:Hid (Chg F W1 v1):=g1.mono (fun g' _ h=>t5 g' (.inl h))
 have a3:=t3.chg g1 (fun g' hg' e=>As t3 t2 (by decide) hg' e)
 have a4:=t4.chg g1 (fun g' hg' e=>As t4 t2 (by decide) hg' e)
 have a2:=u2.chg g1 (fun g' hg' e=>As u2 t2 (by decide) hg' e)
 have a5:∀i,i<xs2.length->Aw n v1 (K2 i) (Ak xs2 i) (T.kids.getD i AR):=fun i hi=>(u3 i hi).chg g1 (fun g' hg' e=>(u4 i g' hi hg').2 (.inl e))
 clear d1;have d1:=LK.out v1 G1.out
 have HI:Hid _:=Ea 0 yc T.cuts (k+2*(T.pairs.length:Int)) v1 a3 (by omega) (by omega) (by omega)
 have T1:Hid _:=And.intro p1 (And.intro a3 (And.intro a4 (And.intro a2 a5)))
 clear p1 g1 a2 a3 a4 a5 t1 t2 t3 t4 t5 u1 u2 u3 u4 u5 HP;go_wp2_with fail;refine Calls.mono HI.out ?_
 rintro e v2 ⟨rfl,p2,g2⟩
 obtain⟨t3,t4,t5,u1,u2,u3,u4,u5,t2,t1⟩:=TT.out
 obtain⟨p1,a3,a4,a2,a5⟩:=T1.out
 have G2:Hid (Chg F W1 v2):=G1.out.trans (g2.mono (G:=F) (fun g' _ h=>t5 g' (.inr (.inl h)))) (fun _ _ h=>h)
 have p1:=p1.chg g2 (fun g' hg' e=>As p1 a3 (by decide) hg' e)
 have a4:=a4.chg g2 (fun g' hg' e=>As a4 a3 (by decide) hg' e)
 have a2:=a2.chg g2 (fun g' hg' e=>As a2 a3 (by decide) hg' e)
 have a5:∀i,i<xs2.length->Aw n v2 (K2 i) (Ak xs2 i) (T.kids.getD i AR):=fun i hi=>(a5 i hi).chg g2 (fun g' hg' e=>(u4 i g' hi hg').2 (.inr (.inl e)))
 clear d1;have d1:=LK.out v2 G2.out
 have HT:Hid _:=Gx n yk xs2 T.kids K2 (k+2*(T.pairs.length:Int)+(T.cuts.length:Int)) v2 u1 a2 a5 (fun i g' hi hg' e=>(u4 i g' hi hg').2 (.inr (.inr (.inr e)))) u5 (by omega) (by omega)
 have T2:Hid _:=And.intro p1 (And.intro p2 (And.intro a4 a2))
 clear p1 p2 g2 a2 a3 a4 a5 t1 t2 t3 t4 t5 u1 u2 u3 u4 u5 HI T1 G1;go_wp2_with fail;refine Calls.mono HT.out ?_
 rintro e v3 ⟨rfl,⟨zs,z1,z2,z3⟩,g3⟩
 obtain⟨t3,t4,t5,u1,u2,u3,u4,u5,t2,t1⟩:=TT.out
 obtain⟨p1,p2,a4,a2⟩:=T2.out
 have G3:Hid (Chg F W1 v3):=G2.out.trans (g3.mono (G:=F) (fun g' _ h=>by
  rcases h with h|⟨i,hi,h⟩
  ·exact t5 g' (.inr (.inr (.inr h)))
  ·exact(u4 i g' hi h).1)) (fun _ _ h=>h)
 have ne3:∀(g' :Nat),(wrB yp g' ∨wrB yc g' ∨wrB yb g')->¬wrB yk g' ->¬(wrB yk g' ∨∃i,i<xs2.length/\K2 i g'):=fun g' h hn e=>by
  rcases e with e|⟨i,hi,e⟩
  ·exact hn e
  ·exact(u4 i g' hi e).2 (by rcases h with h|h|h;exact .inl h;exact .inr (.inl h);exact .inr (.inr (.inl h)))
 have p1:=p1.chg g3 (fun g' hg' =>ne3 g' (.inl hg') (As p1 a2 (by decide) hg'))
 have p2:=p2.chg g3 (fun g' hg' =>ne3 g' (.inr (.inl hg')) (As p2 a2 (by decide) hg'))
 have a4:=a4.chg g3 (fun g' hg' =>ne3 g' (.inr (.inr hg')) (As a4 a2 (by decide) hg'))
 clear d1;have d1:=LK.out v3 G3.out
 have HM:Hid _:=Gl 0 yb T.buf (k+2*(T.pairs.length:Int)+(T.cuts.length:Int)+(B6 n T.kids:Nat)) v3 a4 (by omega) (by omega) (by omega)
 have T3:Hid _:=And.intro p1 (And.intro p2 (And.intro a4 (And.intro z1 (And.intro z2 z3))))
 clear p1 p2 g3 a2 a4 z1 z2 z3 t1 t2 t3 t4 t5 u1 u2 u3 u4 u5 HT T2 G2 ne3;go_wp2_with fail;refine Calls.mono HM.out ?_
 rintro e v4 ⟨rfl,p4,g4⟩
 obtain⟨t3,t4,t5,u1,u2,u3,u4,u5,t2,t1⟩:=TT.out
 obtain⟨p1,p2,a4,z1,z2,z3⟩:=T3.out
 have G4:Hid (Chg F W1 v4):=G3.out.trans (g4.mono (G:=F) (fun g' _ h=>t5 g' (.inr (.inr (.inl h))))) (fun _ _ h=>h)
 have p1:=p1.chg g4 (fun g' hg' e=>As p1 a4 (by decide) hg' e)
 have p2:=p2.chg g4 (fun g' hg' e=>As p2 a4 (by decide) hg' e)
 have z2:=z2.chg g4 (fun g' hg' e=>As z2 a4 (by decide) hg' e)
 have z3:∀i,i<xs2.length->Aw n v4 (K2 i) (Ak zs i) ((Cn n (k+2*(T.pairs.length:Int)+(T.cuts.length:Int)) T.kids).getD i AR):=fun i hi=>(z3 i hi).chg g4 (fun g' hg' e=>(u4 i g' hi hg').2 (.inr (.inr (.inl e))))
 have TJ:Aw (n+1) v4 F ⟨yl,yp,yc,yk,yb⟩ (Ca (n+1) k T):=by
  rw[Fo]
  refine⟨t1, ?_, ?_, ?_,t5,zs,K2, ?_,z2, ?_, ?_, ?_⟩
  ·show Ac v4 0 _ 2 yp (Bn _ _).length (AF (Bn _ _))
   rw[Be];exact p1
  ·show Ac v4 0 _ 1 yc (AS _ _).length (Am (AS _ _))
   rw[AO];exact p2
  ·show Ac v4 0 _ 3 yb (Bl _ _).length (AW (Bl _ _))
   rw[Bd];exact p4
  ·show zs.length=(Cn _ _ _).length
   rw[DF,z1,u1]
  ·exact fun i hi=>z3 i (by omega)
  ·exact fun i g' hi=>u4 i g' (by omega)
  ·exact fun i j' g' hij hj' =>u5 i j' g' hij (by omega)
 have FIN:Hid _:=And.intro TJ ((Chg.of_below (F:=F) BN.out).trans G4.out (fun _ _ h=>h))
 clear p1 p2 p4 g4 a4 z1 z2 z3 t1 t2 t3 t4 t5 u1 u2 u3 u4 u5 HM T3 G3 G4 TT TJ LK d1;go_wp2;go_ret;exact⟨An (by omega),FIN.out⟩
end
section
open Go.RowKit
end
section
open Go.RowKit

abbrev Pt:=Value × Nat × List Value
def PB (P:List Pt) (i:Nat):Pt:=P.getD i (.slice none 0 0,0,[])
def ptN (P:List Pt) (j:Nat):Nat:=((P.take j).map fun p=>p.2.1).sum
def ptC (P:List Pt) (j:Nat):List Value:=((P.take j).map fun p=>p.2.2).flatten
def Vb (w:World) (size:Nat) (P:List Pt):Prop:=∀i,i<P.length->Row w (PB P i).1 (PB P i).2.1 (PB P i).2.2/\(PB P i).2.2.length=(PB P i).2.1*size/\∀y∈(PB P i).2.2,y.oneCell' =true
end
section
open Go.RowKit

theorem J4 (v:Value) (n:Nat) (xs:List Value) (w:World) (h:Row w v n xs) (hl:xs.length=n*2) (h1:∀y∈xs,y.oneCell' =true) (hn:n<=8388608) :
  Calls Tryz.prog 131 #[v] w fun e w' =>∃v',e= .returned v' ∧Ac w' w.heap.size 157 2 v' n xs/\Below w.heap.size w w' :=by
 obtain⟨a,q,hv,hq⟩:=h.len
 obtain⟨i0,hi0,hz0,hz1,hz2⟩:=info_parts Tryz.info157
 have HR:Hid _:=Cq (n:=n) (bytes:=16) hn (by decide)
 have RR:Hid (∀u,Below w.heap.size w u->Row u v n xs):=fun u hu=>h.below hu
 have HL:Hid (xs.length=n*2):=hl
 have H1:Hid _:=h1
 cases a with
 |none=>
  have hn0:n=0:=by
   obtain⟨a,b,o,c,h3,h4,h5,h6,h7,h8⟩:=h
   rw[hv] at h3
   injection h3 with e1 e2 e3
   have:=h8 e1.symm
   omega
  subst hn0;have hx:xs=[]:=List.length_eq_zero_iff.1 (by omega)
  subst hx hv;clear h hl h1 RR H1 HL;have hnil:∀W,(binOp .eql 65 (.slice none 0 q) (.slice none 0 0)).run Tryz.prog W= .ok (.bool true) W:=fun W=>Lib.run_eql_slice_nil_nil W _ _ Tryz.underlying65
  go_enter Tryz.func131,Tryz.ntmps131
  go_wp2;go_ret;exact⟨_,rfl,Ac.nil _ _ _ _,Below.refl _ _⟩
 |some p=>
  subst hv;clear h hl h1;have hnil:∀W,(binOp .eql 65 (.slice (some p) n q) (.slice none 0 0)).run Tryz.prog W= .ok (.bool false) W:=fun W=>Lib.run_eql_slice_some_nil W _ _ _ Tryz.underlying65
  go_enter Tryz.func131,Tryz.ntmps131
  go_wp2_with (at_builtin;refine BO (w.alloc (.cells #[] 157)) rfl _ _ 65 rfl w.heap.size 157 i0 _ 2 16 Tryz.underlying65 hi0 hz0 hz1 hz2 rfl (by decide) (.slice (some ⟨w.heap.size,0,none⟩) 0 0) 0 [] rfl (Ac.zero _ _ _ _ _) (.slice (some p) n q) n xs rfl (RR.out _ (al1 _ _)) HL.out H1.out HR.out.1 HR.out.2 (by simp) ?_)
  rintro v' w2 ⟨o1,o2,o3,o4⟩
  have B2:Below w.heap.size w w2:=Below.trans (al1 _ _) o3
  clear o2 o3 o4;go_wp2;go_ret;exact⟨_,rfl,by simpa using o1,B2⟩

theorem EY (v:Value) (n:Nat) (xs:List Value) (w:World) (h:Row w v n xs) (hl:xs.length=n*1) (h1:∀y∈xs,y.oneCell' =true) (hn:n<=8388608) :
  Calls Tryz.prog 111 #[v] w fun e w' =>∃v',e= .returned v' ∧Ac w' w.heap.size 3 1 v' n xs/\Below w.heap.size w w' :=by
 obtain⟨a,q,hv,hq⟩:=h.len
 obtain⟨i0,hi0,hz0,hz1,hz2⟩:=info_parts Tryz.info3
 have HR:Hid _:=Cq (n:=n) (bytes:=8) hn (by decide)
 have RR:Hid (∀u,Below w.heap.size w u->Row u v n xs):=fun u hu=>h.below hu
 have HL:Hid (xs.length=n*1):=hl
 have H1:Hid _:=h1
 cases a with
 |none=>
  have hn0:n=0:=by
   obtain⟨a,b,o,c,h3,h4,h5,h6,h7,h8⟩:=h
   rw[hv] at h3
   injection h3 with e1 e2 e3
   have:=h8 e1.symm
   omega
  subst hn0;have hx:xs=[]:=List.length_eq_zero_iff.1 (by omega)
  subst hx hv;clear h hl h1 RR H1 HL;have hnil:∀W,(binOp .eql 50 (.slice none 0 q) (.slice none 0 0)).run Tryz.prog W= .ok (.bool true) W:=fun W=>Lib.run_eql_slice_nil_nil W _ _ Tryz.underlying50
  go_enter Tryz.func111,Tryz.ntmps111
  go_wp2;go_ret;exact⟨_,rfl,Ac.nil _ _ _ _,Below.refl _ _⟩
 |some p=>
  subst hv;clear h hl h1;have hnil:∀W,(binOp .eql 50 (.slice (some p) n q) (.slice none 0 0)).run Tryz.prog W= .ok (.bool false) W:=fun W=>Lib.run_eql_slice_some_nil W _ _ _ Tryz.underlying50
  go_enter Tryz.func111,Tryz.ntmps111
  go_wp2_with (at_builtin;refine BO (w.alloc (.cells #[] 3)) rfl _ _ 50 rfl w.heap.size 3 i0 _ 1 8 Tryz.underlying50 hi0 hz0 hz1 hz2 rfl (by decide) (.slice (some ⟨w.heap.size,0,none⟩) 0 0) 0 [] rfl (Ac.zero _ _ _ _ _) (.slice (some p) n q) n xs rfl (RR.out _ (al1 _ _)) HL.out H1.out HR.out.1 HR.out.2 (by simp) ?_)
  rintro v' w2 ⟨o1,o2,o3,o4⟩
  have B2:Below w.heap.size w w2:=Below.trans (al1 _ _) o3
  clear o2 o3 o4;go_wp2;go_ret;exact⟨_,rfl,by simpa using o1,B2⟩

theorem Kt (v:Value) (n:Nat) (xs:List Value) (w:World) (h:Row w v n xs) (hl:xs.length=n*3) (h1:∀y∈xs,y.oneCell' =true) (hn:n<=8388608) :
  Calls Tryz.prog 133 #[v] w fun e w' =>∃v',e= .returned v' ∧Ac w' w.heap.size 115 3 v' n xs/\Below w.heap.size w w' :=by
 obtain⟨a,q,hv,hq⟩:=h.len
 obtain⟨i0,hi0,hz0,hz1,hz2⟩:=info_parts Tryz.info115
 have HR:Hid _:=Cq (n:=n) (bytes:=24) hn (by decide)
 have RR:Hid (∀u,Below w.heap.size w u->Row u v n xs):=fun u hu=>h.below hu
 have HL:Hid (xs.length=n*3):=hl
 have H1:Hid _:=h1
 cases a with
 |none=>
  have hn0:n=0:=by
   obtain⟨a,b,o,c,h3,h4,h5,h6,h7,h8⟩:=h
   rw[hv] at h3
   injection h3 with e1 e2 e3
   have:=h8 e1.symm
   omega
  subst hn0;have hx:xs=[]:=List.length_eq_zero_iff.1 (by omega)
  subst hx hv;clear h hl h1 RR H1 HL;have hnil:∀W,(binOp .eql 67 (.slice none 0 q) (.slice none 0 0)).run Tryz.prog W= .ok (.bool true) W:=fun W=>Lib.run_eql_slice_nil_nil W _ _ Tryz.underlying67
  go_enter Tryz.func133,Tryz.ntmps133
  go_wp2;go_ret;exact⟨_,rfl,Ac.nil _ _ _ _,Below.refl _ _⟩
 |some p=>
  subst hv;clear h hl h1;have hnil:∀W,(binOp .eql 67 (.slice (some p) n q) (.slice none 0 0)).run Tryz.prog W= .ok (.bool false) W:=fun W=>Lib.run_eql_slice_some_nil W _ _ _ Tryz.underlying67
  go_enter Tryz.func133,Tryz.ntmps133
  go_wp2_with (at_builtin;refine BO (w.alloc (.cells #[] 115)) rfl _ _ 67 rfl w.heap.size 115 i0 _ 3 24 Tryz.underlying67 hi0 hz0 hz1 hz2 rfl (by decide) (.slice (some ⟨w.heap.size,0,none⟩) 0 0) 0 [] rfl (Ac.zero _ _ _ _ _) (.slice (some p) n q) n xs rfl (RR.out _ (al1 _ _)) HL.out H1.out HR.out.1 HR.out.2 (by simp) ?_)
  rintro v' w2 ⟨o1,o2,o3,o4⟩
  have B2:Below w.heap.size w w2:=Below.trans (al1 _ _) o3
  clear o2 o3 o4;go_wp2;go_ret;exact⟨_,rfl,by simpa using o1,B2⟩

theorem GP (v:Value) (n:Nat) (xs:List Value) (w:World) (h:Row w v n xs) (hl:xs.length=n*5) (h1:∀y∈xs,y.oneCell' =true) (hn:n<=8388608) :
  Calls Tryz.prog 134 #[v] w fun e w' =>∃v',e= .returned v' ∧Ac w' w.heap.size 69 5 v' n xs/\Below w.heap.size w w' :=by
 obtain⟨a,q,hv,hq⟩:=h.len
 obtain⟨i0,hi0,hz0,hz1,hz2⟩:=info_parts Tryz.info69
 have HR:Hid _:=Cq (n:=n) (bytes:=104) hn (by decide)
 have RR:Hid (∀u,Below w.heap.size w u->Row u v n xs):=fun u hu=>h.below hu
 have HL:Hid (xs.length=n*5):=hl
 have H1:Hid _:=h1
 cases a with
 |none=>
  have hn0:n=0:=by
   obtain⟨a,b,o,c,h3,h4,h5,h6,h7,h8⟩:=h
   rw[hv] at h3
   injection h3 with e1 e2 e3
   have:=h8 e1.symm
   omega
  subst hn0;have hx:xs=[]:=List.length_eq_zero_iff.1 (by omega)
  subst hx hv;clear h hl h1 RR H1 HL;have hnil:∀W,(binOp .eql 66 (.slice none 0 q) (.slice none 0 0)).run Tryz.prog W= .ok (.bool true) W:=fun W=>Lib.run_eql_slice_nil_nil W _ _ Tryz.underlying66
  go_enter Tryz.func134,Tryz.ntmps134
  go_wp2;go_ret;exact⟨_,rfl,Ac.nil _ _ _ _,Below.refl _ _⟩
 |some p=>
  subst hv;clear h hl h1;have hnil:∀W,(binOp .eql 66 (.slice (some p) n q) (.slice none 0 0)).run Tryz.prog W= .ok (.bool false) W:=fun W=>Lib.run_eql_slice_some_nil W _ _ _ Tryz.underlying66
  go_enter Tryz.func134,Tryz.ntmps134
  go_wp2_with (at_builtin;refine BO (w.alloc (.cells #[] 69)) rfl _ _ 66 rfl w.heap.size 69 i0 _ 5 104 Tryz.underlying66 hi0 hz0 hz1 hz2 rfl (by decide) (.slice (some ⟨w.heap.size,0,none⟩) 0 0) 0 [] rfl (Ac.zero _ _ _ _ _) (.slice (some p) n q) n xs rfl (RR.out _ (al1 _ _)) HL.out H1.out HR.out.1 HR.out.2 (by simp) ?_)
  rintro v' w2 ⟨o1,o2,o3,o4⟩
  have B2:Below w.heap.size w w2:=Below.trans (al1 _ _) o3
  clear o2 o3 o4;go_wp2;go_ret;exact⟨_,rfl,by simpa using o1,B2⟩
end
end Go.Proofs.YtkcaelfkcepdkaaGreat
