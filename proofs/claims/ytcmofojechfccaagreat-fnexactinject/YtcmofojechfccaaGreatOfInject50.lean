/-
  Marks of whole trees: markTree over a tree in memory of its own.
  Contracts of the laws' own functions that measure a tree.
-/
import Derived.Test.YtcmofojechfccaaGreatOfInject49
import Derived.Deep.DeepCutAuto
import Derived.Deep.CutBlock
import Derived.Test.YtcmofojechfccaaGreatOfInject5
namespace Go.Proofs.YtcmofojechfccaaGreat
set_option maxRecDepth 100000
set_option maxHeartbeats 8000000
section
open Go.RowKit

theorem flatT_flag (l:List TV) (b:Bool):∀i,i<l.length->(flatT l).set (i*5) (.bool b)=flatT (l.set i ⟨b,(tvAt l i).p,(tvAt l i).c,(tvAt l i).k,(tvAt l i).b⟩):=by
 induction l with
 |nil=>intro i h;simp at h
 |cons p l ih=>
  intro i h
  cases i with
  |zero=>simp[flatT_cons,tvAt]
  |succ i=>
   have:=ih i (by simpa using h)
   rw[flatT_cons,List.set_cons_succ,flatT_cons,show(i+1)*5=i*5+1+1+1+1+1 by omega]
   simp only[List.set_cons_succ,this]
   simp[tvAt]
theorem wrB_ty {w:World} {b e s n:Nat} {v:Value} {xs:List Value} (h:OwnE w b e s v n xs) {g:Nat} (hg:wrB v g):∃cur,w.heap[g]? =some (.cells cur e (0,0)):=by
 obtain⟨k,cap,rfl,hc⟩:=hg
 rcases h with h|⟨_,_,g',h'⟩
 ·exact(owns_lt h (g:=g) rfl).2
 ·simp at h';omega
theorem wrB_apart {w:World} {b b' e e' s s' n n' :Nat} {v v' :Value} {xs xs' :List Value} (h:OwnE w b e s v n xs) (h' :OwnE w b' e' s' v' n' xs') (ht:e≠e') {g:Nat} (hg:wrB v g):¬wrB v' g:=fun hg' =>by
 obtain⟨c,hc⟩:=wrB_ty h hg
 obtain⟨c',hc'⟩:=wrB_ty h' hg'
 rw[hc] at hc'
 simp at hc'
 exact ht hc'.2

def MarkDS (n:Nat):Prop:=∀(v:Value) (xs:List TV) (ts:List Tr) (K:Nat->Nat->Prop) (k:Int) (w:World),xs.length=ts.length->OwnE w 0 35 5 v xs.length (flatT xs)→
 (∀i,i<xs.length->TreeD n w (K i) (tvAt xs i) (ts.getD i noTr))->(∀i g,i<xs.length->K i g->¬wrB v g)->(∀i j g,i<j->j<xs.length->K i g->¬K j g)->0<=k->k+(mkTs n ts:Nat)<=4194304→
 Calls Tryz.prog 60 #[v, .int .i64 k] w fun e w' =>e= .returned (.int .i64 (k+(mkTs n ts:Nat)))∧
  (∃ys:List TV,ys.length=xs.length/\OwnE w' 0 35 5 v ys.length (flatT ys)/\∀i,i<xs.length->TreeD n w' (K i) (tvAt ys i) ((markTs n k ts).getD i noTr))/\Chg (fun g=>wrB v g∨∃i,i<xs.length/\K i g) w w'

structure HalfD (n:Nat) (v:Value) (m:Nat) (ts:List Tr) (K:Nat->Nat->Prop) (k:Int) (w wr:World) (j:Nat) (ys:List TV):Prop where
 len:ys.length=m
 own:OwnE wr 0 35 5 v m (flatT ys)
 ahead:∀i,i<j->i<m->TreeD n wr (K i) (tvAt ys i) ((markTs n k ts).getD i noTr)
 rest:∀i,j<=i->i<m->TreeD n wr (K i) (tvAt ys i) (ts.getD i noTr)
 chg:Chg (fun g=>wrB v g∨∃i,i<m/\K i g) w wr

theorem HalfD.step {n m j g cap:Nat} {ts:List Tr} {K:Nat->Nat->Prop} {k:Int} {w wr w5:World} {ys:List TV} {flag:Bool} (h:HalfD n (.slice (some ⟨g,0,none⟩) m cap) m ts K k w wr j ys) (hj:j<m)
  (hv:∀i g',i<m->K i g' ->¬wrB (.slice (some ⟨g,0,none⟩) m cap) g') (hd:∀i j g',i<j->j<m->K i g' ->¬K j g') (hcap:0<cap)
  (hc:Chg (K j) (wr.setCell ⟨g,j*5,none⟩ (.bool flag)) w5)
  (ht:TreeD n w5 (K j) ⟨flag,(tvAt ys j).p,(tvAt ys j).c,(tvAt ys j).k,(tvAt ys j).b⟩ ((markTs n k ts).getD j noTr)) :
  HalfD n (.slice (some ⟨g,0,none⟩) m cap) m ts K k w w5 (j+1) (ys.set j ⟨flag,(tvAt ys j).p,(tvAt ys j).c,(tvAt ys j).k,(tvAt ys j).b⟩):=by
 have hg:wrB (.slice (some ⟨g,0,none⟩) m cap) g:=⟨_,_,rfl,hcap⟩
 have c1:Chg (fun g' =>g' =g) wr (wr.setCell ⟨g,j*5,none⟩ (.bool flag)):=(Chg.refl (fun g' =>g' =g) wr).setAt g (j*5) rfl _
 have hl:=h.len
 have ow:wr.ownsRow 0 35 5 (.slice (some ⟨g,0,none⟩) m cap) m (flatT ys):=by
  rcases h.own with h|⟨h,_⟩
  ·exact h
  ·omega
 have o1:=(ow.stored (j*5) (.bool flag)).1
 rw[flatT_flag ys flag j (by omega)] at o1
 have o5:=owns_chg o1 hc (fun g' hg' e=>hv j g' hj e ⟨_,_,by simp[Value.ownBlock] at hg';subst hg';rfl,hcap⟩)
 have other:∀(i:Nat) (T:Tr) (x:TV),i<m->i≠j->TreeD n wr (K i) x T->TreeD n w5 (K i) x T:=fun i T x hi hij t=>
  (t.chg c1 (fun g' hg' e=>hv i g' hi hg' (by subst e;exact hg))).chg hc (fun g' hg' e=>by
   rcases Nat.lt_or_gt_of_ne hij with h|h
   ·exact hd i j g' h hj hg' e
   ·exact hd j i g' h hi e hg')
 have tv:∀i,i≠j->tvAt (ys.set j ⟨flag,(tvAt ys j).p,(tvAt ys j).c,(tvAt ys j).k,(tvAt ys j).b⟩) i=tvAt ys i:=fun i hi=>by
  simp[tvAt,List.getD,List.getElem?_set_ne (Ne.symm hi)]
 have tj:tvAt (ys.set j ⟨flag,(tvAt ys j).p,(tvAt ys j).c,(tvAt ys j).k,(tvAt ys j).b⟩) j=⟨flag,(tvAt ys j).p,(tvAt ys j).c,(tvAt ys j).k,(tvAt ys j).b⟩:=by
  simp[tvAt,List.getD,hl,hj]
 refine⟨by simp[hl], .inl o5,fun i hi him=> ?_,fun i hi him=> ?_,(h.chg.trans c1 (fun g' _ e=> .inl (by subst e;exact hg))).trans hc (fun g' _ e=> .inr ⟨j,hj,e⟩)⟩
 ·by_cases e:i=j
  ·subst e;rw[tj];exact ht
  ·rw[tv i e];exact other i _ _ him e (h.ahead i (by omega) him)
 ·rw[tv i (by omega)];exact other i _ _ him (by omega) (h.rest i (by omega) him)

theorem markDS_of (n:Nat) (H:∀n',n=n' +1->MarkDS n'):MarkDS n:=by
 intro v xs ts K k w hl ho hkid hv hd hk0 hk1
 obtain⟨a,cap,hvv⟩:=ho.slice
 subst hvv
 have hlen:xs.length<=4194304:=by
  have:ts.length<=mkTs n ts:=by unfold mkTs;omega
  omega
 have MS:Hid (∀i,i<xs.length->mkTo n ts (i+1)=mkTo n ts i+(1+mkT n (ts.getD i noTr))):=fun i hi=>mkTo_succ n ts i (by omega)
 have ML:Hid (∀i,i<=xs.length->mkTo n ts i<=mkTs n ts):=fun i hi=>mkTo_le n ts i (by omega)
 have MF:Hid (mkTo n ts xs.length=mkTs n ts):=by
  show _=_
  rw[hl,mkTo_full]
 have M0:Hid (mkTo n ts 0=0):=by
  show _=_
  simp[mkTo]
 have MA:Hid (∀i,i<xs.length->(markTs n k ts).getD i noTr=withLeaf ((k+(mkTo n ts i:Nat))%3==0) (markTr n (k+(mkTo n ts i:Nat)+1) (ts.getD i noTr))):=fun i hi=>markTs_at n k ts i (by omega)
 have H0:Hid (HalfD n (.slice a xs.length cap) xs.length ts K k w w 0 xs):=⟨rfl,ho,fun i hi=>absurd hi (Nat.not_lt_zero _),fun i _ hi=>hkid i hi,Chg.refl _ _⟩
 have HV:Hid _:=And.intro hv hd
 clear ho hkid hv hd hl
 generalize mkTs n ts=TOT at *
 generalize hfo:mkTo n ts=fo at *
 generalize xs.length=m at *
 have hm63:(m:Int)<=4194304:=by omega
 clear hfo
 go_enter Tryz.func60,Tryz.ntmps60
 go_wp2
 go_loopw [1,5] (fun kk i wr=>∃(j:Nat) (ys:List TV),j<=m/\i= .int .i64 j/\kk= .int .i64 (k+(fo j:Nat))/\Hid (HalfD n (.slice a m cap) m ts K k w wr j ys)) (fun _ i _=>m-(intOf i).toNat)
 case atStart=>exact⟨0,xs,Nat.zero_le _,rfl,by rw[M0.out];simp,H0⟩
 case round=>
  obtain⟨j,ys,hj,rfl,rfl,HF⟩:=hrel
  by_cases hlt:j<m
  ·have ow:wr.ownsRow 0 35 5 (.slice a m cap) m (flatT ys):=by
    rcases HF.out.own with h|⟨h,_⟩
    ·exact h
    ·omega
   obtain⟨g,hag,hcap⟩:∃g,a=some ⟨g,0,none⟩/\0<cap:=by
    obtain⟨_,⟨e,e2⟩|⟨g,cap',cur,e,_,_,hle,_⟩⟩:=id ow
    ·omega
    ·simp at e
     exact⟨g,e.1,by omega⟩
   subst hag
   have hyl:=HF.out.len
   have hms:=MS.out j hlt
   have hml:=ML.out (j+1) (by omega)
   have HMA:=MA.out j hlt
   have WT:=HF.out.rest j (Nat.le_refl _) hlt
   cases n with
   |zero=>exact WT.elim
   |succ n=>
   have hat:=flatT_at ys j (by omega)
   have c0:=(ow.cellAt (j*5) (by omega)).trans hat.1
   have f0:=ow.frozenAt (j*5)
   have o1:=(ow.stored (j*5) (.bool ((k+(fo j:Int))%3==0))).1
   rw[flatT_flag ys _ j (by omega)] at o1
   have hgw:wrB (.slice (some ⟨g,0,none⟩) m cap) g:=⟨_,_,rfl,hcap⟩
   have LK:Hid (∀u:World,Chg (K j) (wr.setCell ⟨g,j*5,none⟩ (.bool ((k+(fo j:Int))%3==0))) u->u.cell? ⟨g,j*5+1,none⟩=some (tvAt ys j).p/\u.cell? ⟨g,j*5+2,none⟩=some (tvAt ys j).c/\u.cell? ⟨g,j*5+3,none⟩=some (tvAt ys j).k/\u.cell? ⟨g,j*5+4,none⟩=some (tvAt ys j).b):=fun u hu=>by
    have ou:=owns_chg o1 hu (fun g' hg' e=>HV.out.1 j g' hlt e ⟨_,_,by simp[Value.ownBlock] at hg';subst hg';rfl,hcap⟩)
    have hat2:=flatT_at (ys.set j ⟨((k+(fo j:Int))%3==0),(tvAt ys j).p,(tvAt ys j).c,(tvAt ys j).k,(tvAt ys j).b⟩) j (by simp;omega)
    have tj:tvAt (ys.set j ⟨((k+(fo j:Int))%3==0),(tvAt ys j).p,(tvAt ys j).c,(tvAt ys j).k,(tvAt ys j).b⟩) j=⟨((k+(fo j:Int))%3==0),(tvAt ys j).p,(tvAt ys j).c,(tvAt ys j).k,(tvAt ys j).b⟩:=by
     simp[tvAt,List.getD,hyl,hlt]
    rw[tj] at hat2
    exact⟨(ou.cellAt (j*5+1) (by omega)).trans hat2.2.1,(ou.cellAt (j*5+2) (by omega)).trans hat2.2.2.1,(ou.cellAt (j*5+3) (by omega)).trans hat2.2.2.2.1,(ou.cellAt (j*5+4) (by omega)).trans hat2.2.2.2.2⟩
   have cg:Chg (fun g' =>g' =g) wr (wr.setCell ⟨g,j*5,none⟩ (.bool ((k+(fo j:Int))%3==0))):=(Chg.refl (fun g' =>g' =g) wr).setAt g (j*5) rfl _
   have WT1:=WT.chg cg (fun g' hg' e=>HV.out.1 j g' hlt hg' (by subst e;exact hgw))
   obtain⟨t1,t2,t3,t4,t5,xs2,K2,u1,u2,u3,u4,u5⟩:=WT1
   have STEP:Hid (∀w5:World,Chg (K j) (wr.setCell ⟨g,j*5,none⟩ (.bool ((k+(fo j:Int))%3==0))) w5->TreeD (n+1) w5 (K j) ⟨((k+(fo j:Int))%3==0),(tvAt ys j).p,(tvAt ys j).c,(tvAt ys j).k,(tvAt ys j).b⟩ ((markTs (n+1) k ts).getD j noTr)->∃zs,HalfD (n+1) (.slice (some ⟨g,0,none⟩) m cap) m ts K k w w5 (j+1) zs):=fun w5 h1 h2=>⟨_,HF.out.step hlt HV.out.1 HV.out.2 hcap h1 h2⟩
   rw[HMA] at STEP
   have HH:Hid (MarkDS n):=H n rfl
   have hme:=mkT_parts n (ts.getD j noTr)
   rw[hme] at hms
   have MSE:Hid _:=hms
   obtain⟨d1,d2,d3,d4⟩:=LK.out _ (Chg.refl _ _)
   generalize hW1:(wr.setCell ⟨g,j*5,none⟩ (.bool ((k+(fo j:Int))%3==0)))=W1 at *
   have E1:Hid (wr.setCell ⟨g,j*5,none⟩ (.bool ((k+(fo j:Int))%3==0))=W1):=hW1
   clear hW1
   generalize tvAt ys j=y at *
   obtain⟨yl,yp,yc,yk,yb⟩:=y
   simp only at t1 t2 t3 t4 t5 u2 u4 d1 d2 d3 d4 LK STEP c0
   generalize ts.getD j noTr=t at *
   have hp0:0<=k+(fo j:Int):=by omega
   have hp1:k+(fo j:Int)+1+2*(t.pairs.length:Int)+t.cuts.length+(mkTs n t.kids:Nat)+3*(t.buf.length:Int)<=4194304:=by omega
   have HP:Hid _:=markPairS_g 0 yp t.pairs (k+(fo j:Nat)+1) W1 t2 (by omega) (by omega) (by omega)
   have TT:Hid _:=And.intro t3 (And.intro t4 (And.intro t5 (And.intro u1 (And.intro u2 (And.intro u3 (And.intro u4 (And.intro u5 t2)))))))
   clear hms hml WT t1 t2 t3 t4 t5 u1 u2 u3 u4 u5 hat o1 ow cg hme HMA H HF MA MS ML hgw hyl
   go_upto_region 6 with fail
   rw[E1.out]
   go_wp2_with fail
   refine Calls.mono HP.out ?_
   rintro e v1 ⟨rfl,p1,g1⟩
   obtain⟨t3,t4,t5,u1,u2,u3,u4,u5,t2⟩:=TT.out
   have G1:Hid (Chg (K j) W1 v1):=g1.mono (fun g' _ h=>t5 g' (.inl h))
   have a3:=t3.chg g1 (fun g' hg' e=>wrB_apart t3 t2 (by decide) hg' e)
   have a4:=t4.chg g1 (fun g' hg' e=>wrB_apart t4 t2 (by decide) hg' e)
   have a2:=u2.chg g1 (fun g' hg' e=>wrB_apart u2 t2 (by decide) hg' e)
   have a5:∀i,i<xs2.length->TreeD n v1 (K2 i) (tvAt xs2 i) (t.kids.getD i noTr):=fun i hi=>(u3 i hi).chg g1 (fun g' hg' e=>(u4 i g' hi hg').2 (.inl e))
   clear d1 d2 d3 d4
   obtain⟨d1,d2,d3,d4⟩:=LK.out v1 G1.out
   have HI:Hid _:=markIntS_g 0 yc t.cuts (k+(fo j:Nat)+1+2*(t.pairs.length:Int)) v1 a3 (by omega) (by omega) (by omega)
   have T1:Hid _:=And.intro p1 (And.intro a3 (And.intro a4 (And.intro a2 a5)))
   clear p1 g1 a2 a3 a4 a5 t2 t3 t4 t5 u1 u2 u3 u4 u5 HP
   go_wp2_with fail
   refine Calls.mono HI.out ?_
   rintro e v2 ⟨rfl,p2,g2⟩
   obtain⟨t3,t4,t5,u1,u2,u3,u4,u5,t2⟩:=TT.out
   obtain⟨p1,a3,a4,a2,a5⟩:=T1.out
   have G2:Hid (Chg (K j) W1 v2):=G1.out.trans (g2.mono (G:=K j) (fun g' _ h=>t5 g' (.inr (.inl h)))) (fun _ _ h=>h)
   have p1:=p1.chg g2 (fun g' hg' e=>wrB_apart p1 a3 (by decide) hg' e)
   have a4:=a4.chg g2 (fun g' hg' e=>wrB_apart a4 a3 (by decide) hg' e)
   have a2:=a2.chg g2 (fun g' hg' e=>wrB_apart a2 a3 (by decide) hg' e)
   have a5:∀i,i<xs2.length->TreeD n v2 (K2 i) (tvAt xs2 i) (t.kids.getD i noTr):=fun i hi=>(a5 i hi).chg g2 (fun g' hg' e=>(u4 i g' hi hg').2 (.inr (.inl e)))
   clear d1 d2 d3 d4
   obtain⟨d1,d2,d3,d4⟩:=LK.out v2 G2.out
   have HT:Hid _:=HH.out yk xs2 t.kids K2 (k+(fo j:Nat)+1+2*(t.pairs.length:Int)+(t.cuts.length:Int)) v2 u1 a2 a5 (fun i g' hi hg' e=>(u4 i g' hi hg').2 (.inr (.inr (.inr e)))) u5 (by omega) (by omega)
   have T2:Hid _:=And.intro p1 (And.intro p2 (And.intro a4 a2))
   clear p1 p2 g2 a2 a3 a4 a5 t2 t3 t4 t5 u1 u2 u3 u4 u5 HI T1 G1
   go_wp2_with fail
   refine Calls.mono HT.out ?_
   rintro e v3 ⟨rfl,⟨zs,z1,z2,z3⟩,g3⟩
   obtain⟨t3,t4,t5,u1,u2,u3,u4,u5,t2⟩:=TT.out
   obtain⟨p1,p2,a4,a2⟩:=T2.out
   have G3:Hid (Chg (K j) W1 v3):=G2.out.trans (g3.mono (G:=K j) (fun g' _ h=>by
    rcases h with h|⟨i,hi,h⟩
    ·exact t5 g' (.inr (.inr (.inr h)))
    ·exact(u4 i g' hi h).1)) (fun _ _ h=>h)
   have ne3:∀(g' :Nat),(wrB yp g' ∨wrB yc g' ∨wrB yb g')->¬wrB yk g' ->¬(wrB yk g' ∨∃i,i<xs2.length/\K2 i g'):=fun g' h hn e=>by
    rcases e with e|⟨i,hi,e⟩
    ·exact hn e
    ·exact(u4 i g' hi e).2 (by rcases h with h|h|h;exact .inl h;exact .inr (.inl h);exact .inr (.inr (.inl h)))
   have p1:=p1.chg g3 (fun g' hg' =>ne3 g' (.inl hg') (wrB_apart p1 a2 (by decide) hg'))
   have p2:=p2.chg g3 (fun g' hg' =>ne3 g' (.inr (.inl hg')) (wrB_apart p2 a2 (by decide) hg'))
   have a4:=a4.chg g3 (fun g' hg' =>ne3 g' (.inr (.inr hg')) (wrB_apart a4 a2 (by decide) hg'))
   clear d1 d2 d3 d4
   obtain⟨d1,d2,d3,d4⟩:=LK.out v3 G3.out
   have HM:Hid _:=markMsgS_g 0 yb t.buf (k+(fo j:Nat)+1+2*(t.pairs.length:Int)+(t.cuts.length:Int)+(mkTs n t.kids:Nat)) v3 a4 (by omega) (by omega) (by omega)
   have T3:Hid _:=And.intro p1 (And.intro p2 (And.intro a4 (And.intro z1 (And.intro z2 z3))))
   clear p1 p2 g3 a2 a4 z1 z2 z3 t2 t3 t4 t5 u1 u2 u3 u4 u5 HT T2 G2 ne3 HH
   go_wp2_with fail
   refine Calls.mono HM.out ?_
   rintro e v4 ⟨rfl,p4,g4⟩
   obtain⟨t3,t4,t5,u1,u2,u3,u4,u5,t2⟩:=TT.out
   obtain⟨p1,p2,a4,z1,z2,z3⟩:=T3.out
   have G4:Hid (Chg (K j) W1 v4):=G3.out.trans (g4.mono (G:=K j) (fun g' _ h=>t5 g' (.inr (.inr (.inl h))))) (fun _ _ h=>h)
   have p1:=p1.chg g4 (fun g' hg' e=>wrB_apart p1 a4 (by decide) hg' e)
   have p2:=p2.chg g4 (fun g' hg' e=>wrB_apart p2 a4 (by decide) hg' e)
   have z2:=z2.chg g4 (fun g' hg' e=>wrB_apart z2 a4 (by decide) hg' e)
   have z3:∀i,i<xs2.length->TreeD n v4 (K2 i) (tvAt zs i) ((markTs n (k+(fo j:Nat)+1+2*(t.pairs.length:Int)+(t.cuts.length:Int)) t.kids).getD i noTr):=fun i hi=>(z3 i hi).chg g4 (fun g' hg' e=>(u4 i g' hi hg').2 (.inr (.inr (.inl e))))
   have TJ:TreeD (n+1) v4 (K j) ⟨((k+(fo j:Int))%3==0),yp,yc,yk,yb⟩ (withLeaf ((k+(fo j:Nat))%3==0) (markTr (n+1) (k+(fo j:Nat)+1) t)):=by
    rw[markTr_succ]
    refine⟨rfl, ?_, ?_, ?_,t5,zs,K2, ?_,z2, ?_, ?_, ?_⟩
    ·show OwnE v4 0 _ 2 yp (marksP _ _).length (flatP (marksP _ _))
     rw[marksP_length];exact p1
    ·show OwnE v4 0 _ 1 yc (marksI _ _).length (flatI (marksI _ _))
     rw[marksI_length];exact p2
    ·show OwnE v4 0 _ 3 yb (marksM _ _).length (flatM (marksM _ _))
     rw[marksM_length];exact p4
    ·show zs.length=(markTs _ _ _).length
     rw[markTs_length,z1,u1]
    ·exact fun i hi=>z3 i (by omega)
    ·exact fun i g' hi=>u4 i g' (by omega)
    ·exact fun i j' g' hij hj' =>u5 i j' g' hij (by omega)
   have FIN:Hid _:=STEP.out v4 G4.out TJ
   clear p1 p2 p4 g4 a4 z1 z2 z3 t2 t3 t4 t5 u1 u2 u3 u4 u5 HM T3 G3 G4 TT TJ STEP LK d1 d2 d3 d4
   go_wp2
   go_roundw
   case rel=>
    obtain⟨zs',hz⟩:=FIN.out
    exact⟨j+1,zs',by omega,by go_num,by rw[MSE.out];congr 1;omega,hz⟩
   case measure=>simp[intOf];omega
  ·have hjl:j=m:=by omega
   subst hjl
   have E:Hid (fo j=TOT):=MF
   go_wp2
   go_ret
   refine⟨ret_int (by rw[E.out]),⟨ys,HF.out.len,by rw[HF.out.len];exact HF.out.own,fun i hi=>HF.out.ahead i hi hi⟩,HF.out.chg⟩

theorem markDS_any:∀n,MarkDS n
 |0=>markDS_of 0 (fun _ h=>by cases h)
 |n+1=>markDS_of (n+1) (fun n' h=>by cases h;exact markDS_any n)

theorem markTree_d (n:Nat) (x:TV) (T:Tr) (F:Nat->Prop) (k:Int) (w:World) (ht:TreeD n w F x T) (hF:∀g,F g->g<w.heap.size) (hk0:0<=k) (hk1:k+(mkT n T:Nat)<=4194304) :
  Calls Tryz.prog 14 #[x.val, .int .i64 k] w fun e w' =>e= .returned (.int .i64 (k+(mkT n T:Nat)))/\TreeD n w' F x (markTr n k T)/\Chg F w w' :=by
 cases n with
 |zero=>exact ht.elim
 |succ n=>
 obtain⟨yl,yp,yc,yk,yb⟩:=x
 have hme:=mkT_parts n T
 rw[hme] at hk1 ⊢
 have BN:Hid (Below w.heap.size w (w.alloc (.cells #[.bool yl,yp,yc,yk,yb] 35))):=bel_new _ _
 have N1:=heap_alloc_new w (.cells #[.bool yl,yp,yc,yk,yb] 35)
 have ht1:=ht.below BN.out
 have LK:Hid (∀u:World,Chg F (w.alloc (.cells #[.bool yl,yp,yc,yk,yb] 35)) u->∀j,u.cell? ⟨w.heap.size,j,none⟩= #[Value.bool yl,yp,yc,yk,yb][j]?):=fun u hu j=>cell_of_cells (row_chg N1 hu (fun h=>by have:=hF _ h;omega))
 have d1:=LK.out _ (Chg.refl _ _)
 generalize hW1:w.alloc (.cells #[.bool yl,yp,yc,yk,yb] 35)=W1 at *
 have E1:Hid (w.alloc (.cells #[.bool yl,yp,yc,yk,yb] 35)=W1):=hW1
 obtain⟨t1,t2,t3,t4,t5,xs2,K2,u1,u2,u3,u4,u5⟩:=ht1
 simp only at t1 t2 t3 t4 t5 u2 u4
 have HP:Hid _:=markPairS_g 0 yp T.pairs k W1 t2 (by omega) (by omega) (by omega)
 have TT:Hid _:=And.intro t3 (And.intro t4 (And.intro t5 (And.intro u1 (And.intro u2 (And.intro u3 (And.intro u4 (And.intro u5 (And.intro t2 t1))))))))
 clear t1 t2 t3 t4 t5 u1 u2 u3 u4 u5 ht hW1 N1 hF hme
 show Calls Tryz.prog 14 #[.agg #[.bool yl,yp,yc,yk,yb], .int .i64 k] w _
 go_enter Tryz.func14,Tryz.ntmps14
 go_upto_region 1 with fail
 rw[E1.out]
 go_wp2_with fail
 refine Calls.mono HP.out ?_
 rintro e v1 ⟨rfl,p1,g1⟩
 obtain⟨t3,t4,t5,u1,u2,u3,u4,u5,t2,t1⟩:=TT.out
 have G1:Hid (Chg F W1 v1):=g1.mono (fun g' _ h=>t5 g' (.inl h))
 have a3:=t3.chg g1 (fun g' hg' e=>wrB_apart t3 t2 (by decide) hg' e)
 have a4:=t4.chg g1 (fun g' hg' e=>wrB_apart t4 t2 (by decide) hg' e)
 have a2:=u2.chg g1 (fun g' hg' e=>wrB_apart u2 t2 (by decide) hg' e)
 have a5:∀i,i<xs2.length->TreeD n v1 (K2 i) (tvAt xs2 i) (T.kids.getD i noTr):=fun i hi=>(u3 i hi).chg g1 (fun g' hg' e=>(u4 i g' hi hg').2 (.inl e))
 clear d1
 have d1:=LK.out v1 G1.out
 have HI:Hid _:=markIntS_g 0 yc T.cuts (k+2*(T.pairs.length:Int)) v1 a3 (by omega) (by omega) (by omega)
 have T1:Hid _:=And.intro p1 (And.intro a3 (And.intro a4 (And.intro a2 a5)))
 clear p1 g1 a2 a3 a4 a5 t1 t2 t3 t4 t5 u1 u2 u3 u4 u5 HP
 go_wp2_with fail
 refine Calls.mono HI.out ?_
 rintro e v2 ⟨rfl,p2,g2⟩
 obtain⟨t3,t4,t5,u1,u2,u3,u4,u5,t2,t1⟩:=TT.out
 obtain⟨p1,a3,a4,a2,a5⟩:=T1.out
 have G2:Hid (Chg F W1 v2):=G1.out.trans (g2.mono (G:=F) (fun g' _ h=>t5 g' (.inr (.inl h)))) (fun _ _ h=>h)
 have p1:=p1.chg g2 (fun g' hg' e=>wrB_apart p1 a3 (by decide) hg' e)
 have a4:=a4.chg g2 (fun g' hg' e=>wrB_apart a4 a3 (by decide) hg' e)
 have a2:=a2.chg g2 (fun g' hg' e=>wrB_apart a2 a3 (by decide) hg' e)
 have a5:∀i,i<xs2.length->TreeD n v2 (K2 i) (tvAt xs2 i) (T.kids.getD i noTr):=fun i hi=>(a5 i hi).chg g2 (fun g' hg' e=>(u4 i g' hi hg').2 (.inr (.inl e)))
 clear d1
 have d1:=LK.out v2 G2.out
 have HT:Hid _:=markDS_any n yk xs2 T.kids K2 (k+2*(T.pairs.length:Int)+(T.cuts.length:Int)) v2 u1 a2 a5 (fun i g' hi hg' e=>(u4 i g' hi hg').2 (.inr (.inr (.inr e)))) u5 (by omega) (by omega)
 have T2:Hid _:=And.intro p1 (And.intro p2 (And.intro a4 a2))
 clear p1 p2 g2 a2 a3 a4 a5 t1 t2 t3 t4 t5 u1 u2 u3 u4 u5 HI T1 G1
 go_wp2_with fail
 refine Calls.mono HT.out ?_
 rintro e v3 ⟨rfl,⟨zs,z1,z2,z3⟩,g3⟩
 obtain⟨t3,t4,t5,u1,u2,u3,u4,u5,t2,t1⟩:=TT.out
 obtain⟨p1,p2,a4,a2⟩:=T2.out
 have G3:Hid (Chg F W1 v3):=G2.out.trans (g3.mono (G:=F) (fun g' _ h=>by
  rcases h with h|⟨i,hi,h⟩
  ·exact t5 g' (.inr (.inr (.inr h)))
  ·exact(u4 i g' hi h).1)) (fun _ _ h=>h)
 have ne3:∀(g' :Nat),(wrB yp g' ∨wrB yc g' ∨wrB yb g')->¬wrB yk g' ->¬(wrB yk g' ∨∃i,i<xs2.length/\K2 i g'):=fun g' h hn e=>by
  rcases e with e|⟨i,hi,e⟩
  ·exact hn e
  ·exact(u4 i g' hi e).2 (by rcases h with h|h|h;exact .inl h;exact .inr (.inl h);exact .inr (.inr (.inl h)))
 have p1:=p1.chg g3 (fun g' hg' =>ne3 g' (.inl hg') (wrB_apart p1 a2 (by decide) hg'))
 have p2:=p2.chg g3 (fun g' hg' =>ne3 g' (.inr (.inl hg')) (wrB_apart p2 a2 (by decide) hg'))
 have a4:=a4.chg g3 (fun g' hg' =>ne3 g' (.inr (.inr hg')) (wrB_apart a4 a2 (by decide) hg'))
 clear d1
 have d1:=LK.out v3 G3.out
 have HM:Hid _:=markMsgS_g 0 yb T.buf (k+2*(T.pairs.length:Int)+(T.cuts.length:Int)+(mkTs n T.kids:Nat)) v3 a4 (by omega) (by omega) (by omega)
 have T3:Hid _:=And.intro p1 (And.intro p2 (And.intro a4 (And.intro z1 (And.intro z2 z3))))
 clear p1 p2 g3 a2 a4 z1 z2 z3 t1 t2 t3 t4 t5 u1 u2 u3 u4 u5 HT T2 G2 ne3
 go_wp2_with fail
 refine Calls.mono HM.out ?_
 rintro e v4 ⟨rfl,p4,g4⟩
 obtain⟨t3,t4,t5,u1,u2,u3,u4,u5,t2,t1⟩:=TT.out
 obtain⟨p1,p2,a4,z1,z2,z3⟩:=T3.out
 have G4:Hid (Chg F W1 v4):=G3.out.trans (g4.mono (G:=F) (fun g' _ h=>t5 g' (.inr (.inr (.inl h))))) (fun _ _ h=>h)
 have p1:=p1.chg g4 (fun g' hg' e=>wrB_apart p1 a4 (by decide) hg' e)
 have p2:=p2.chg g4 (fun g' hg' e=>wrB_apart p2 a4 (by decide) hg' e)
 have z2:=z2.chg g4 (fun g' hg' e=>wrB_apart z2 a4 (by decide) hg' e)
 have z3:∀i,i<xs2.length->TreeD n v4 (K2 i) (tvAt zs i) ((markTs n (k+2*(T.pairs.length:Int)+(T.cuts.length:Int)) T.kids).getD i noTr):=fun i hi=>(z3 i hi).chg g4 (fun g' hg' e=>(u4 i g' hi hg').2 (.inr (.inr (.inl e))))
 have TJ:TreeD (n+1) v4 F ⟨yl,yp,yc,yk,yb⟩ (markTr (n+1) k T):=by
  rw[markTr_succ]
  refine⟨t1, ?_, ?_, ?_,t5,zs,K2, ?_,z2, ?_, ?_, ?_⟩
  ·show OwnE v4 0 _ 2 yp (marksP _ _).length (flatP (marksP _ _))
   rw[marksP_length];exact p1
  ·show OwnE v4 0 _ 1 yc (marksI _ _).length (flatI (marksI _ _))
   rw[marksI_length];exact p2
  ·show OwnE v4 0 _ 3 yb (marksM _ _).length (flatM (marksM _ _))
   rw[marksM_length];exact p4
  ·show zs.length=(markTs _ _ _).length
   rw[markTs_length,z1,u1]
  ·exact fun i hi=>z3 i (by omega)
  ·exact fun i g' hi=>u4 i g' (by omega)
  ·exact fun i j' g' hij hj' =>u5 i j' g' hij (by omega)
 have FIN:Hid _:=And.intro TJ ((Chg.of_below (F:=F) BN.out).trans G4.out (fun _ _ h=>h))
 clear p1 p2 p4 g4 a4 z1 z2 z3 t1 t2 t3 t4 t5 u1 u2 u3 u4 u5 HM T3 G3 G4 TT TJ LK d1
 go_wp2
 go_ret
 exact⟨ret_int (by omega),FIN.out⟩
end
section
open Go.RowKit

theorem szIntS_any (a:Option Addr) (n cap:Nat) (left:Int) (hn:n<=maxLen) (hl:0<=left) (hl2:left<=1048576) (w:World) :
  Calls Tryz.prog 39 #[.slice a n cap, .int .i64 left] w fun e w' =>e= .returned (.int .i64 (if (n:Int)<=left then left-n else -1))/\w' =w:=by
 unfold maxLen at hn
 by_cases h:(n:Int)<=left
 ·go_enter Tryz.func39,Tryz.ntmps39
  go_wp2
  go_ret
  exact⟨rfl,rfl⟩
 ·go_enter Tryz.func39,Tryz.ntmps39
  go_wp2
  go_ret
  exact⟨rfl,rfl⟩

def SzTree (n:Nat):Prop:=∀(x:TV) (T:Tr) (left:Int) (w:World),TreeAt n w x T->0<=left->left<=1048576→
  Calls Tryz.prog 8 #[x.val, .int .i64 left] w fun e w' =>e= .returned (.int .i64 (leftOf left (sizeT n T)))/\Below w.heap.size w w'
def SzTreeS (n:Nat):Prop:=∀(v:Value) (ts:List Tr) (left:Int) (w:World),TreesAt n w v ts->0<=left->left<=1048576→
  Calls Tryz.prog 40 #[v, .int .i64 left] w fun e w' =>e= .returned (.int .i64 (leftOf left (sizeTs n ts)))/\Below w.heap.size w w'

theorem leftOf_yes {left:Int} {n:Nat} (h:(n:Int)<=left):leftOf left n=left-n:=if_pos h
theorem leftOf_no {left:Int} {n:Nat} (h:¬(n:Int)<=left):leftOf left n= -1:=if_neg h

theorem szTreeS_of {n:Nat} (H:SzTree n):SzTreeS n:=by
 intro v ts left w hts hl0 hl1
 obtain⟨xs,hxl,hrow,hk⟩:=hts
 obtain⟨a,b,off,cap,rfl,hcap,hmax,ha,c0,c1,c2,c3,c4⟩:=hrow.trees
 unfold maxLen at hmax
 have XL:Hid (xs.length=ts.length):=hxl
 clear hxl
 by_cases hl:(xs.length:Int)<=left
 ·go_enter Tryz.func40,Tryz.ntmps40
  go_wp2
  go_loopw [1,5] (fun lf i wr=>∃(k:Nat) (y:Int),k<=xs.length/\i= .int .i64 k/\lf= .int .i64 y/\0<=y/\y<=1048576/\Hid (y=left-xs.length-sumTo n ts k)/\Below w.heap.size w wr)
   (fun _ i _=>xs.length-(intOf i).toNat)
  case atStart=>exact⟨0,left-xs.length,Nat.zero_le _,rfl,rfl,by omega,by omega,by show _=_;simp[sumTo],Below.refl _ _⟩
  case round=>
   obtain⟨k,y,hkl,rfl,rfl,hy0,hy1,YE,hb⟩:=hrel
   by_cases hlt:k<xs.length
   ·have hal:=ha (by omega)
    subst hal
    have d0:=(hb.cell (by exact cell_lt (c0 k hlt))).trans (c0 k hlt)
    have d1:=(hb.cell (by exact cell_lt (c1 k hlt))).trans (c1 k hlt)
    have d2:=(hb.cell (by exact cell_lt (c2 k hlt))).trans (c2 k hlt)
    have d3:=(hb.cell (by exact cell_lt (c3 k hlt))).trans (c3 k hlt)
    have d4:=(hb.cell (by exact cell_lt (c4 k hlt))).trans (c4 k hlt)
    have T0:Hid (TreeAt n wr (tvAt xs k) (ts.getD k noTr)):=(hk k hlt).below hb
    have S1:Hid (sumTo n ts (k+1)=sumTo n ts k+sizeT n (ts.getD k noTr)):=sumTo_succ n ts k (by have:=XL.out;omega)
    have S2:Hid (sumTo n ts (k+1)<=(ts.map (sizeT n)).sum):=sumTo_le n ts (k+1)
    clear c0 c1 c2 c3 c4 hk hrow ha
    by_cases hfit:(sizeT n (ts.getD k noTr):Int)<=y
    ·go_wp2_with fail
     refine(H (tvAt xs k) _ _ _ T0.out hy0 hy1).mono ?_
     rintro e w1 ⟨he,hb1⟩
     rw[leftOf_yes hfit] at he
     subst he
     have Y2:Hid (y-(sizeT n (ts.getD k noTr):Int)=left-xs.length-sumTo n ts (k+1)):=by
      have e1:=YE.out;have e2:=S1.out
      show _=_
      omega
     clear YE S1 S2 T0 d0 d1 d2 d3 d4
     generalize sizeT n (ts.getD k noTr)=s at *
     go_wp2
     go_roundw
     case rel=>exact⟨k+1,_,by omega,by go_num,rfl,by omega,by omega,Y2,Below.and hb hb1⟩
     case measure=>simp[intOf];omega
    ·go_wp2_with fail
     refine(H (tvAt xs k) _ _ _ T0.out hy0 hy1).mono ?_
     rintro e w1 ⟨he,hb1⟩
     rw[leftOf_no (by omega)] at he
     subst he
     have Y2:Hid (leftOf left (sizeTs n ts)= -1):=by
      have e1:=YE.out;have e2:=S1.out;have e3:=S2.out;have e4:=XL.out
      refine leftOf_no ?_
      unfold sizeTs
      omega
     clear YE S1 S2 T0 d0 d1 d2 d3 d4
     generalize sizeT n (ts.getD k noTr)=s at *
     go_wp2
     go_ret
     exact⟨ret_int Y2.out.symm,Below.and hb hb1⟩
   ·have hkk:k=xs.length:=by omega
    subst hkk
    have Y2:Hid (leftOf left (sizeTs n ts)=y):=by
     have e1:=YE.out
     rw[XL.out,sumTo_all] at e1
     show _=_
     rw[leftOf_yes (by have:=XL.out;unfold sizeTs;omega)]
     unfold sizeTs
     omega
    clear c0 c1 c2 c3 c4 hk hrow ha YE
    go_wp2
    go_ret
    exact⟨ret_int Y2.out.symm,hb⟩
 ·have Y2:Hid (leftOf left (sizeTs n ts)= -1):=leftOf_no (by have:=XL.out;unfold sizeTs;omega)
  go_enter Tryz.func40,Tryz.ntmps40
  go_wp2
  go_ret
  exact⟨ret_int Y2.out.symm,Below.refl _ _⟩

theorem szTree_of {n:Nat} (H:SzTreeS n):SzTree (n+1):=by
 intro x T left w ht hl0 hl1
 obtain⟨lf,p,c,k,b⟩:=x
 obtain⟨_,hp,hc,hb,hk⟩:=ht.parts
 simp only at hp hc hb hk
 obtain⟨a1,cap1,rfl,m1⟩:=hp.len
 obtain⟨a2,cap2,rfl,m2⟩:=hc.len
 obtain⟨a4,cap4,rfl,m4⟩:=hb.len
 have KK:Hid (TreesAt n w k T.kids):=hk
 have hS:Hid (sizeT (n+1) T=T.pairs.length+(T.cuts.length+(sizeTs n T.kids+T.buf.length))):=rfl
 clear hp hc hb hk ht
 show Calls Tryz.prog 8 #[.agg #[.bool lf, .slice a1 T.pairs.length cap1, .slice a2 T.cuts.length cap2,k, .slice a4 T.buf.length cap4], .int .i64 left] w _
 by_cases f1:(T.pairs.length:Int)<=left
 ·by_cases f2:(T.cuts.length:Int)<=left-T.pairs.length
  ·by_cases f3:(sizeTs n T.kids:Int)<=left-T.pairs.length-T.cuts.length
   ·by_cases f4:(T.buf.length:Int)<=left-T.pairs.length-T.cuts.length-sizeTs n T.kids
    all_goals
     go_enter Tryz.func8,Tryz.ntmps8
     go_wp2_with fail
     refine(szPairS_any _ _ _ _ m1 (by omega) (by omega) _).mono ?_
     rintro e w1 ⟨rfl,rfl⟩
     go_wp2_with fail
     refine(szIntS_any _ _ _ _ m2 (by omega) (by omega) _).mono ?_
     rintro e w1 ⟨rfl,rfl⟩
     go_wp2_with fail
     refine(H _ T.kids _ _ (KK.out.below ((Below.refl _ _).alloc (Nat.le_refl _) _)) (by omega) (by omega)).mono ?_
     rintro e w1 ⟨he,hb1⟩
     rw[leftOf_yes f3] at he
     subst he
     obtain⟨hc,hf⟩:=bcell hb1
     have BB:Hid (Below w.heap.size w w1):=((Below.refl _ _).alloc (Nat.le_refl _) _).trans (hb1.mono (by simp))
     clear hb1
     generalize sizeTs n T.kids=s at *
     go_wp2_with fail
     refine(szMsgS_any _ _ _ _ m4 (by omega) (by omega) _).mono ?_
     rintro e w1 ⟨rfl,rfl⟩
     go_wp2
     go_ret
     refine⟨ret_int ?_,BB.out⟩
     rw[hS.out]
     unfold leftOf
     split<;>omega
   ·go_enter Tryz.func8,Tryz.ntmps8
    go_wp2_with fail
    refine(szPairS_any _ _ _ _ m1 (by omega) (by omega) _).mono ?_
    rintro e w1 ⟨rfl,rfl⟩
    go_wp2_with fail
    refine(szIntS_any _ _ _ _ m2 (by omega) (by omega) _).mono ?_
    rintro e w1 ⟨rfl,rfl⟩
    go_wp2_with fail
    refine(H _ T.kids _ _ (KK.out.below ((Below.refl _ _).alloc (Nat.le_refl _) _)) (by omega) (by omega)).mono ?_
    rintro e w1 ⟨he,hb1⟩
    rw[leftOf_no (by omega)] at he
    subst he
    have BB:Hid (Below w.heap.size w w1):=((Below.refl _ _).alloc (Nat.le_refl _) _).trans (hb1.mono (by simp))
    clear hb1
    generalize sizeTs n T.kids=s at *
    go_wp2
    go_ret
    refine⟨ret_int ?_,BB.out⟩
    rw[hS.out]
    unfold leftOf
    split<;>omega
  ·go_enter Tryz.func8,Tryz.ntmps8
   go_wp2_with fail
   refine(szPairS_any _ _ _ _ m1 (by omega) (by omega) _).mono ?_
   rintro e w1 ⟨rfl,rfl⟩
   go_wp2_with fail
   refine(szIntS_any _ _ _ _ m2 (by omega) (by omega) _).mono ?_
   rintro e w1 ⟨rfl,rfl⟩
   go_wp2
   go_ret
   refine⟨ret_int ?_,(Below.refl _ _).alloc (Nat.le_refl _) _⟩
   rw[hS.out]
   unfold leftOf
   split<;>omega
 ·go_enter Tryz.func8,Tryz.ntmps8
  go_wp2_with fail
  refine(szPairS_any _ _ _ _ m1 (by omega) (by omega) _).mono ?_
  rintro e w1 ⟨rfl,rfl⟩
  go_wp2
  go_ret
  refine⟨ret_int ?_,(Below.refl _ _).alloc (Nat.le_refl _) _⟩
  rw[hS.out]
  unfold leftOf
  split<;>omega

theorem szTree_any:∀n,SzTree n
 |0=>fun _ _ _ _ h=>h.elim
 |n+1=>szTree_of (szTreeS_of (szTree_any n))
end
end Go.Proofs.YtcmofojechfccaaGreat
