/-
  The laws' own copy of a tree lies in memory of its own, each row apart from all others.
  The laws' own functions that write marks into a list of messages, and look for them.
  Contracts of the laws' own functions that hold two trees against each other.
-/
import Derived.Test.YtcmofojechfccaaGreatOfInject23
import Derived.Test.YtcmofojechfccaaGreatOfInject7
import Derived.Test.YtcmofojechfccaaGreatOfInject25
import Derived.Test.YtcmofojechfccaaGreatOfInject4
import Derived.Test.YtcmofojechfccaaGreatOfInject5
namespace Go.Proofs.YtcmofojechfccaaGreat
set_option maxRecDepth 100000
set_option maxHeartbeats 8000000
section
open Go.RowKit

theorem TreeD.setCell {n:Nat} {w:World} {F:Nat->Prop} {x:TV} {T:Tr} (h:TreeD n w F x T) {a:Addr} (ha:¬F a.block) (u:Value):TreeD n (w.setCell a u) F x T:=
 h.frame fun _ hg _=>Below.heap_setCell _ _ _ _ (fun e=>ha (e ▸ hg))
def KidsD (n:Nat) (w:World) (base k:Nat) (ys:List TV) (ts:List Tr):Prop:=
 ∃K:Nat->Nat->Prop,(∀i,i<k->TreeD n w (K i) (tvAt ys i) (ts.getD i noTr))/\(∀i g,i<k->K i g->base<=g/\g<w.heap.size)/\∀i j g,i<j->j<k->K i g->¬K j g
theorem KidsD.zero (n:Nat) (w:World) (base:Nat) (ys:List TV) (ts:List Tr):KidsD n w base 0 ys ts:=⟨fun _ _=>False,fun i hi=>by omega,fun i g hi=>by omega,fun i j g _ hj=>by omega⟩
theorem KidsD.setCell {n:Nat} {w:World} {base k:Nat} {ys:List TV} {ts:List Tr} (h:KidsD n w base k ys ts) {a:Addr} (ha:a.block<base) (u:Value):KidsD n (w.setCell a u) base k ys ts:=by
 obtain⟨K,h1,h2,h3⟩:=h
 exact⟨K,fun i hi=>(h1 i hi).setCell (fun hk=>by have:=(h2 i _ hi hk).1;omega) u,fun i g hi hg=>by have:=h2 i g hi hg;simpa using this,h3⟩
theorem KidsD.add {n:Nat} {w w1:World} {base k:Nat} {ys:List TV} {ts:List Tr} {y:TV} (h:KidsD n w base k ys ts) (hb:Below w.heap.size w w1) (hy:TreeD n w1 (fun g=>w.heap.size<=g) y (ts.getD k noTr)) (hk:k<ys.length) (hw:base<=w.heap.size):KidsD n w1 base (k+1) (ys.set k y) ts:=by
 obtain⟨K,h1,h2,h3⟩:=h
 refine⟨fun i g=>(i<k/\K i g)∨(i=k/\w.heap.size<=g/\g<w1.heap.size),fun i hi=> ?_,fun i g hi hg=> ?_,fun i j g hij hj hg hg' => ?_⟩
 ·by_cases hik:i<k
  ·rw[tvAt_set_ne _ _ _ _ (by omega)]
   exact((h1 i hik).below hb).mono (fun g hg=> .inl ⟨hik,hg⟩)
  ·have:i=k:=by omega
   subst this
   rw[tvAt_set_eq _ _ _ hk]
   exact hy.lt.mono (fun g hg=> .inr ⟨rfl,hg⟩)
 ·have hs:=hb.size
  rcases hg with⟨hik,hg⟩|⟨_,hg⟩
  ·have:=h2 i g hik hg
   omega
  ·omega
 ·rcases hg with⟨hik,hg⟩|⟨hik,hg⟩<;>rcases hg' with⟨hjk,hg'⟩|⟨hjk,hg'⟩
  ·exact h3 i j g hij hjk hg hg'
  ·have:=h2 i g hik hg
   omega
  ·omega
  ·omega
def TreesZ (n:Nat) (w:World) (lo hi:Nat) (v:Value) (ts:List Tr):Prop:=
 ∃(xs:List TV) (K:Nat->Nat->Prop),xs.length=ts.length/\w.ownsRow lo 35 5 v xs.length (flatT xs)/\(∀i,i<xs.length->TreeD n w (K i) (tvAt xs i) (ts.getD i noTr))/\(∀i g,i<xs.length->K i g->lo<=g/\g<hi/\¬wrB v g)/\∀i j g,i<j->j<xs.length->K i g->¬K j g
theorem TreesZ.setCell {n:Nat} {w:World} {lo hi:Nat} {v:Value} {ts:List Tr} (h:TreesZ n w lo hi v ts) {a:Addr} (ha:a.block<lo) (u:Value):TreesZ n (w.setCell a u) lo hi v ts:=by
 obtain⟨xs,K,h1,h2,h3,h4,h5⟩:=h
 exact⟨xs,K,h1,ownsRow_setCell_below h2 ha u,fun i hi=>(h3 i hi).setCell (fun hk=>by have:=(h4 i _ hi hk).1;omega) u,h4,h5⟩
theorem TreesZ.below {n:Nat} {w w' :World} {lo hi:Nat} {v:Value} {ts:List Tr} (h:TreesZ n w lo hi v ts) (hb:Below w.heap.size w w'):TreesZ n w' lo hi v ts:=by
 obtain⟨xs,K,h1,h2,h3,h4,h5⟩:=h
 exact⟨xs,K,h1,owns_below h2 hb,fun i hi=>(h3 i hi).below hb,h4,h5⟩
theorem TreesZ.slice {n:Nat} {w:World} {lo hi:Nat} {v:Value} {ts:List Tr} (h:TreesZ n w lo hi v ts):∃(a:Option Addr) (m q:Nat),v= .slice a m q:=by
 obtain⟨xs,_,_,h6,_⟩:=h
 obtain⟨a,q,e,_⟩:=(Row.of_owns h6).len
 exact⟨a,_,q,e⟩
def ToTreeD (n:Nat):Prop:=∀(x:TV) (T:Tr) (w:World),TreeAt n w x T->sizeT n T<=1048576→
  Calls Tryz.prog 10 #[x.val] w fun e w' =>∃y:TV,e= .returned y.val/\TreeD n w' (fun g=>w.heap.size<=g) y T/\Below w.heap.size w w'
def ToTreeDS (n:Nat):Prop:=∀(v:Value) (ts:List Tr) (w:World),TreesAt n w v ts->sizeTs n ts<=1048576→
  Calls Tryz.prog 48 #[v] w fun e w' =>∃v' :Value,e= .returned v' ∧TreesZ n w' w.heap.size w'.heap.size v' ts/\Below w.heap.size w w'

theorem toTreeDS_of {n:Nat} (H:ToTreeD n):ToTreeDS n:=by
 intro v ts w hts hsz
 obtain⟨xs,hxl,hrow,hk⟩:=hts
 obtain⟨a,b,off,cap,rfl,hcap,hmax,ha,c0,c1,c2,c3,c4⟩:=hrow.trees
 obtain⟨i0,hi,hz0,hz1,hz2⟩:=info_parts Tryz.info35
 unfold maxLen at hmax
 have XL:=hid (hxl)
 have hn:xs.length<=1048576:=by unfold sizeTs at hsz;omega
 have SZ:Hid (∀k,k<xs.length->sizeT n (ts.getD k noTr)<=1048576):=by
  intro k hk
  have h1:=sumTo_succ n ts k (by omega)
  have h2:=sumTo_le n ts (k+1)
  unfold sizeTs at hsz
  omega
 clear hxl hsz
 go_enter Tryz.func48,Tryz.ntmps48
 go_wp2_with (at_make;refine wpList_make_full _ rfl _ _ 32 rfl w.heap.size 35 i0 _ 5 Tryz.underlying32 hi hz0 hz1 .i64 .i64 _ _ xs.length rfl rfl rfl rfl ?c1 ?c2 ?c3 ?_)
 case c1=>rw[hz2];omega
 case c2=>unfold maxLen;omega
 case c3=>exact Nat.le_refl _
 intro w0 hown0 hgrow0
 have hb0:Below w.heap.size w w0:=(Below.refl _ _).grown hgrow0 (Nat.le_refl _) (fun k hk=>by cases hk)
 clear hgrow0
 rw[show(madeCells _ (xs.length*5)).toList=flatT (List.replicate xs.length noTV) from madeCells_tree xs.length] at hown0
 go_wp2
 go_loopw [4] (fun i wr=>∃(k:Nat) (ys:List TV),k<=xs.length/\i= .int .i64 k/\Hid (ys.length=xs.length)/\Hid (wr.ownsRow w.heap.size 35 5 (.slice (some ⟨w.heap.size,0,none⟩) xs.length xs.length) xs.length (flatT ys))/\Hid (KidsD n wr (w.heap.size+1) k ys ts)/\Below w.heap.size w wr)
  (fun i _=>xs.length-(intOf i).toNat)
 case atStart=>exact⟨0,List.replicate xs.length noTV,Nat.zero_le _,rfl,by show _=_;simp,hown0,KidsD.zero _ _ _ _ _,hb0⟩
 case round=>
  obtain⟨k,ys,hkl,rfl,YL,OWN,KS,hb⟩:=hrel
  clear hown0 hb0
  by_cases hlt:k<xs.length
  ·have hal:=ha (by omega)
   subst hal
   have d0:=(hb.cell (by exact cell_lt (c0 k hlt))).trans (c0 k hlt)
   have d1:=(hb.cell (by exact cell_lt (c1 k hlt))).trans (c1 k hlt)
   have d2:=(hb.cell (by exact cell_lt (c2 k hlt))).trans (c2 k hlt)
   have d3:=(hb.cell (by exact cell_lt (c3 k hlt))).trans (c3 k hlt)
   have d4:=(hb.cell (by exact cell_lt (c4 k hlt))).trans (c4 k hlt)
   have T0:=hid ((hk k hlt).below hb)
   have S0:=hid (SZ.out k hlt)
   clear c0 c1 c2 c3 c4 hk hrow ha
   go_wp2_with fail
   refine(H (tvAt xs k) _ _ T0.out S0.out).mono ?_
   rintro e w1 ⟨y,rfl,own,hb1⟩
   obtain⟨a1,a2,a3,a4,q1,q2,q3,q4,hy⟩:=own.treeF.treeAt.shape
   generalize (ts.getD k noTr).leaf=m0,(ts.getD k noTr).pairs.length=m1,(ts.getD k noTr).cuts.length=m2,(ts.getD k noTr).kids.length=m3,(ts.getD k noTr).buf.length=m4 at hy
   have own1:=owns_below OWN.out hb1
   have hwr:w.heap.size+1<=wr.heap.size:=by
    have:=(Row.of_owns OWN.out)
    obtain⟨_,h|⟨g,cap',cur,hg,_,hh,_⟩⟩:=OWN.out
    ·cases h.1
    ·cases hg
     exact(Array.getElem?_eq_some_iff.1 hh).1
   have hat:=flatT_at ys k (by have:=YL.out;omega)
   have e0:=(own1.cellAt (k*5) (by omega)).trans hat.1
   have e1:=(own1.cellAt (k*5+1) (by omega)).trans hat.2.1
   have e2:=(own1.cellAt (k*5+2) (by omega)).trans hat.2.2.1
   have e3:=(own1.cellAt (k*5+3) (by omega)).trans hat.2.2.2.1
   have e4:=(own1.cellAt (k*5+4) (by omega)).trans hat.2.2.2.2
   have f0:=own1.frozenAt (k*5)
   have f1:=own1.frozenAt (k*5+1)
   have f2:=own1.frozenAt (k*5+2)
   have f3:=own1.frozenAt (k*5+3)
   have f4:=own1.frozenAt (k*5+4)
   have st:=(((((own1.stored (k*5) (.bool y.lf)).1.stored (k*5+1) y.p).1.stored (k*5+2) y.c).1.stored (k*5+3) y.k).1.stored (k*5+4) y.b).1
   rw[flatT_set _ _ k (by have:=YL.out;omega)] at st
   have hb2:Below w.heap.size w w1:=hb.trans (hb1.mono hb.size)
   have KS2:=hid (KS.out.add hb1 own (by have:=YL.out;omega) hwr)
   have YL2:Hid ((ys.set k y).length=xs.length):=by
    have:=YL.out
    show _=_
    simpa using this
   have ST:Hid _:=st
   generalize tvAt ys k=z at *
   subst hy
   clear st OWN hb1 d0 d1 d2 d3 d4 own1 own hat KS T0 S0 YL hwr
   go_wp2
   go_roundw
   case rel=>exact⟨k+1,_,by omega,by go_num,YL2,ST.out,((((KS2.out.setCell (Nat.lt_succ_self _) _).setCell (Nat.lt_succ_self _) _).setCell (Nat.lt_succ_self _) _).setCell (Nat.lt_succ_self _) _).setCell (Nat.lt_succ_self _) _,((((hb2.setCell (Nat.le_refl _) _).setCell (Nat.le_refl _) _).setCell (Nat.le_refl _) _).setCell (Nat.le_refl _) _).setCell (Nat.le_refl _) _⟩
   case measure=>simp[intOf];omega
  ·clear c0 c1 c2 c3 c4 hk hrow ha
   go_wp2
   go_ret
   have hkk:k=xs.length:=by omega
   subst hkk
   obtain⟨K,k1,k2,k3⟩:=KS.out
   refine⟨_,rfl,⟨ys,K,by rw[YL.out,XL.out],by rw[YL.out];exact OWN.out,fun i hi=>k1 i (by rw[←YL.out];exact hi),fun i g hi hg=> ?_,fun i j g hij hj=>k3 i j g hij (by rw[←YL.out];exact hj)⟩,hb⟩
   have h4:=k2 i g (by rw[←YL.out];exact hi) hg
   refine⟨by omega,h4.2,fun hw=> ?_⟩
   obtain⟨_,_,he,_⟩:=hw
   have:=congrArg Value.ownBlock he
   simp[Value.ownBlock] at this
   omega

theorem toTreeD_of {n:Nat} (H:ToTreeDS n):ToTreeD (n+1):=by
 intro x T w ht hsz
 obtain⟨lf,p,c,k,b⟩:=x
 obtain⟨hlf,hp,hc,hb,hk⟩:=ht.parts
 simp only at hlf hp hc hb hk
 have hS:sizeT (n+1) T=T.pairs.length+(T.cuts.length+(sizeTs n T.kids+T.buf.length)):=rfl
 have s1:T.pairs.length<=1048576:=by omega
 have s2:T.cuts.length<=1048576:=by omega
 have s3:sizeTs n T.kids<=1048576:=by omega
 have s4:T.buf.length<=1048576:=by omega
 have R1:=hid (hp)
 have R2:=hid (hc)
 have R3:=hid (hk)
 have R4:=hid (hb)
 have LF:=hid (hlf)
 clear hp hc hb hk ht hlf hS hsz
 have st0:=hid (OutAt.start w #[.bool lf,p,c,k,b] #[.bool false, .slice none 0 0, .slice none 0 0, .slice none 0 0, .slice none 0 0] #[.bool lf, .slice none 0 0, .slice none 0 0, .slice none 0 0, .slice none 0 0])
 have bo0:Hid (Below w.heap.size w (((w.alloc (.cells #[.bool lf,p,c,k,b] 27)).alloc (.cells #[.bool false, .slice none 0 0, .slice none 0 0, .slice none 0 0, .slice none 0 0] 35)).alloc (.cells #[.bool lf, .slice none 0 0, .slice none 0 0, .slice none 0 0, .slice none 0 0] 35))):=
  (((Below.refl _ _).alloc (Nat.le_refl _) _).alloc (by simp) _).alloc (by simp;omega) _
 show Calls Tryz.prog 10 #[.agg #[.bool lf,p,c,k,b]] w _
 go_enter Tryz.func10,Tryz.ntmps10
 go_wp2_with fail
 refine(toPairS_any _ T.pairs _ (R1.out.below bo0.out) s1).mono ?_
 rintro e w1 ⟨v1,rfl,own1,hb1⟩
 have B1:=hid (Below.and bo0.out hb1)
 have S1:=hid (st0.out.step hb1)
 have O1:=hid (owns_mono own1 st0.out.size)
 obtain⟨a1,q1,rfl,_⟩:=(Row.of_owns own1).len
 have L1:=hid (fun g (hg:wrB (.slice a1 T.pairs.length q1) g)=>((OwnE.lt (.inl own1)) g hg).2)
 obtain⟨k0,k1,k2,k3,k4⟩:=S1.out.cells
 clear hb1 own1 bo0 st0
 go_wp2_with fail
 have B1' :=B1.out.setCell (p:=⟨w.heap.size+1+1,1,none⟩) (by show w.heap.size<=w.heap.size+1+1;omega) (.slice a1 T.pairs.length q1)
 have S1' :=S1.out.set 1 (.slice a1 T.pairs.length q1)
 refine(toIntS_any _ T.cuts _ (R2.out.below B1') s2).mono ?_
 rintro e w2 ⟨v2,rfl,own2,hb2⟩
 have B2:=hid (Below.and B1' hb2)
 have S2:=hid (S1'.step hb2)
 have Z2:Hid (w1.heap.size<=w2.heap.size):=(by have:=hb2.size;simpa using this:w1.heap.size<=w2.heap.size)
 have O2:=hid (owns_mono own2 S1'.size)
 have O1' :=hid (owns_below (ownsRow_setCell_below O1.out (a:=⟨w.heap.size+1+1,1,none⟩) (by show w.heap.size+1+1<w.heap.size+3;omega) _) hb2)
 obtain⟨a2,q2,rfl,_⟩:=(Row.of_owns own2).len
 have L2:=hid (fun g (hg:wrB (.slice a2 T.cuts.length q2) g)=>((OwnE.lt (.inl own2)) g hg).2)
 have Z0:=hid (S2.out.size)
 clear hb2 own2 B1 B1' S1 S1' O1 k0 k1 k2 k3 k4
 obtain⟨k0,k1,k2,k3,k4⟩:=S2.out.cells
 go_wp2_with fail
 have B2' :=B2.out.setCell (p:=⟨w.heap.size+1+1,2,none⟩) (by show w.heap.size<=w.heap.size+1+1;omega) (.slice a2 T.cuts.length q2)
 have S2' :=S2.out.set 2 (.slice a2 T.cuts.length q2)
 refine(H _ T.kids _ (R3.out.below B2') s3).mono ?_
 rintro e w3 ⟨v3,rfl,own3,hb3⟩
 have B3:=hid (Below.and B2' hb3)
 have S3:=hid (S2'.step hb3)
 have O3:Hid (TreesZ n w3 w2.heap.size w3.heap.size v3 T.kids):=(by have:=own3;simpa using this:TreesZ n w3 w2.heap.size w3.heap.size v3 T.kids)
 have O1:=hid (owns_below (ownsRow_setCell_below O1'.out (a:=⟨w.heap.size+1+1,2,none⟩) (by show w.heap.size+1+1<w.heap.size+3;omega) _) hb3)
 have O2' :=hid (owns_below (ownsRow_setCell_below O2.out (a:=⟨w.heap.size+1+1,2,none⟩) (by show w.heap.size+1+1<w.heap.size+3;omega) _) hb3)
 obtain⟨a3,m3,q3,rfl⟩:=own3.slice
 clear hb3 own3 B2 B2' S2 S2' O1' O2 k0 k1 k2 k3 k4
 obtain⟨k0,k1,k2,k3,k4⟩:=S3.out.cells
 go_wp2_with fail
 have B3' :=B3.out.setCell (p:=⟨w.heap.size+1+1,3,none⟩) (by show w.heap.size<=w.heap.size+1+1;omega) (.slice a3 m3 q3)
 have S3' :=S3.out.set 3 (.slice a3 m3 q3)
 refine(toMsgS_any _ T.buf _ (R4.out.below B3') s4).mono ?_
 rintro e w4 ⟨v4,rfl,own4,hb4⟩
 have B4:=hid (Below.and B3' hb4)
 have S4:=hid (S3'.step hb4)
 have O4:=hid (owns_mono own4 S3'.size)
 have L4:Hid (∀g,wrB v4 g->w3.heap.size<=g):=fun g hg=>by have:=((OwnE.lt (.inl own4)) g hg).1;simpa using this
 have O1' :=hid (owns_below (ownsRow_setCell_below O1.out (a:=⟨w.heap.size+1+1,3,none⟩) (by show w.heap.size+1+1<w.heap.size+3;omega) _) hb4)
 have O2:=hid (owns_below (ownsRow_setCell_below O2'.out (a:=⟨w.heap.size+1+1,3,none⟩) (by show w.heap.size+1+1<w.heap.size+3;omega) _) hb4)
 have O3' :=hid ((O3.out.setCell (a:=⟨w.heap.size+1+1,3,none⟩) (by show w.heap.size+1+1<w2.heap.size;have:=Z0.out;omega) _).below hb4)
 obtain⟨a4,q4,rfl,_⟩:=(Row.of_owns own4).len
 clear hb4 own4 B3 B3' S3 S3' O1 O2' O3 k0 k1 k2 k3 k4
 obtain⟨k0,k1,k2,k3,k4⟩:=S4.out.cells
 go_wp2
 refine bodyPost_ret (v:= .agg #[.bool lf, .slice a1 T.pairs.length q1, .slice a2 T.cuts.length q2, .slice a3 m3 q3, .slice a4 T.buf.length q4]) (by simp[results,Tryz.results10,go_sem,k1]) rfl ⟨⟨lf, .slice a1 T.pairs.length q1, .slice a2 T.cuts.length q2, .slice a3 m3 q3, .slice a4 T.buf.length q4⟩,rfl, ?_, ?_⟩
 ·have hT:TreeD (n+1) w4 (fun g=>w.heap.size+3<=g) ⟨lf, .slice a1 T.pairs.length q1, .slice a2 T.cuts.length q2, .slice a3 m3 q3, .slice a4 T.buf.length q4⟩ T:=by
   obtain⟨xs,K,e1,e2,e3,e4,e5⟩:=O3'.out
   have z0:=Z0.out
   have z2:=Z2.out
   refine⟨LF.out, .inl (owns_mono O1'.out (Nat.zero_le _)), .inl (owns_mono O2.out (Nat.zero_le _)), .inl (owns_mono O4.out (Nat.zero_le _)),fun g hg=> ?_,xs,K,e1, .inl (owns_mono e2 (Nat.zero_le _)),e3,fun i g hi hg=>⟨?_,fun hw=> ?_⟩,e5⟩
   ·rcases hg with hg|hg|hg|hg
    ·exact((OwnE.lt (.inl O1'.out)) g hg).1
    ·exact((OwnE.lt (.inl O2.out)) g hg).1
    ·exact((OwnE.lt (.inl O4.out)) g hg).1
    ·have:=((OwnE.lt (.inl e2)) g hg).1
     omega
   ·have:=(e4 i g hi hg).1
    omega
   ·have hk:=e4 i g hi hg
    rcases hw with hw|hw|hw|hw
    ·have:=L1.out g hw
     omega
    ·have:=L2.out g hw
     omega
    ·have:=L4.out g hw
     omega
    ·exact hk.2.2 hw
  refine TreeD.mono (F:=fun g=>w.heap.size+3<=g) ?_ (fun g hg=>by omega)
  repeat (refine TreeD.setCell ?_ (by simp only[];omega) _)
  exact hT
 ·repeat (refine Below.setCell ?_ (by simp only[];omega) _)
  exact B4.out

theorem toTreeD_any:∀n,ToTreeD n
 |0=>fun _ _ _ h=>h.elim
 |n+1=>toTreeD_of (toTreeDS_of (toTreeD_any n))
end
section
open Go.RowKit

def marksM (k:Int) (n:Nat):ML:=(List.range n).map fun (i:Nat)=>(k+3*i,k+3*i+1,k+3*i+2)
theorem marksM_length (k:Int) (n:Nat):(marksM k n).length=n:=by simp[marksM]
theorem marksM_succ (k:Int) (n:Nat):marksM k (n+1)=marksM k n++[(k+3*n,k+3*n+1,k+3*n+2)]:=by simp[marksM,List.range_succ]
theorem marksM_at (k:Int) (n i:Nat) (h:i<n):mO (marksM k n) i=k+3*i/\mK (marksM k n) i=k+3*i+1/\mV (marksM k n) i=k+3*i+2:=by
 simp[marksM,mO,mK,mV,List.getD,h]
def midM (k:Int) (l:ML) (i:Nat):ML:=marksM k i++l.drop i
theorem midM_length (k:Int) (l:ML) (i:Nat) (h:i<=l.length):(midM k l i).length=l.length:=by simp[midM,marksM_length];omega
theorem midM_zero (k:Int) (l:ML):midM k l 0=l:=by simp[midM,marksM]
theorem midM_full (k:Int) (l:ML):midM k l l.length=marksM k l.length:=by simp[midM]
theorem midM_step (k:Int) (l:ML) (i:Nat) (h:i<l.length):(midM k l i).set i (k+3*i,k+3*i+1,k+3*i+2)=midM k l (i+1):=by
 rw[midM,midM,marksM_succ,List.drop_eq_getElem_cons h,List.set_append_right _ _ (by rw[marksM_length];omega),marksM_length,Nat.sub_self,List.set_cons_zero]
 simp

theorem owns_cap {w:World} {base e size n cap:Nat} {a:Option Addr} {xs:List Value} (h:w.ownsRow base e size (.slice a n cap) n xs):cap<=maxLen:=by
 obtain⟨_,⟨e,_⟩|⟨g,cap',cur,e,_,_,_,hc,_⟩⟩:=h
 ·simp at e;rw[e.2.2];exact Nat.zero_le _
 ·simp at e;rw[e.2];exact hc

theorem markMsgS_any (v:Value) (l:ML) (k:Int) (w:World) (h:w.ownsRow 0 38 3 v l.length (flatM l)) (hn:l.length<=4194304) (hk0:0<=k) (hk1:k<=4194304) :
  Calls Tryz.prog 61 #[v, .int .i64 k] w fun e w' =>e= .returned (.int .i64 (k+3*l.length))/\w'.ownsRow 0 38 3 v l.length (flatM (marksM k l.length))/\Chg (fun g=>v.ownBlock=some g) w w' :=by
 obtain⟨a,cap,hv⟩:=owns_val h
 have OW:Hid (w.ownsRow 0 38 3 v l.length (flatM l)):=h
 clear h
 rw[hv] at OW ⊢
 clear hv
 have hcap:=owns_cap OW.out
 unfold maxLen at hcap
 go_enter Tryz.func61,Tryz.ntmps61
 go_wp2
 go_loopw [1,5] (fun kk i wr=>∃j:Nat,j<=l.length/\i= .int .i64 j/\kk= .int .i64 (k+3*j)/\wr.ownsRow 0 38 3 (.slice a l.length cap) l.length (flatM (midM k l j))/\Chg (fun g=>(Value.slice a l.length cap).ownBlock=some g) w wr)
  (fun _ i _=>l.length-(intOf i).toNat)
 case atStart=>exact⟨0,Nat.zero_le _,rfl,by simp,by rw[midM_zero];exact OW.out,Chg.refl _ _⟩
 case round=>
  obtain⟨j,hj,rfl,rfl,hown,hch⟩:=hrel
  by_cases hlt:j<l.length
  ·have hex:∃g,a=some ⟨g,0,none⟩:=by
    obtain⟨_,⟨e,e2⟩|⟨g,cap',cur,e,_⟩⟩:=hown
    ·omega
    ·simp at e;exact⟨g,e.1⟩
   obtain⟨g,rfl⟩:=hex
   have hml:(midM k l j).length=l.length:=midM_length k l j hj
   have hat:=flatM_at (midM k l j) j (by omega)
   have e0:=(hown.cellAt (j*3) (by omega)).trans hat.1
   have e1:=(hown.cellAt (j*3+1) (by omega)).trans hat.2.1
   have e2:=(hown.cellAt (j*3+2) (by omega)).trans hat.2.2
   have f0:=hown.frozenAt (j*3)
   have f1:=hown.frozenAt (j*3+1)
   have f2:=hown.frozenAt (j*3+2)
   have st:=(hown.stored (j*3) (.int .i64 (k+3*j))).1
   have st2:=(st.stored (j*3+1) (.int .i64 (k+3*j+1))).1
   have st3:=(st2.stored (j*3+2) (.int .i64 (k+3*j+2))).1
   rw[flatM_set _ _ _ _ j (by omega),midM_step k l j hlt] at st3
   have hch2:Chg (fun g' =>(Value.slice (some ⟨g,0,none⟩) l.length cap).ownBlock=some g') w (((wr.setCell ⟨g,j*3,none⟩ (.int .i64 (k+3*j))).setCell ⟨g,j*3+1,none⟩ (.int .i64 (k+3*j+1))).setCell ⟨g,j*3+2,none⟩ (.int .i64 (k+3*j+2))):=
    ((hch.setAt g _ rfl _).setAt g _ rfl _).setAt g _ rfl _
   generalize mO (midM k l j) j=x0 at *
   generalize mK (midM k l j) j=x1 at *
   generalize mV (midM k l j) j=x2 at *
   have ST:Hid _:=And.intro st3 hch2
   clear st st2 st3 hch2 hown hch hml hat OW
   have hb0:0<=k+3*(j:Int):=by omega
   have hb1:k+3*(j:Int)<=100000000:=by omega
   go_wp2
   go_roundw
   case rel=>exact⟨j+1,by omega,by go_num,by go_num,by rw[show k+3*(j:Int)+2=k+3*(j:Int)+1+1 by omega] at ST;exact ST.out.1,by rw[show k+3*(j:Int)+2=k+3*(j:Int)+1+1 by omega] at ST;exact ST.out.2⟩
   case measure=>simp[intOf];omega
  ·have hjl:j=l.length:=by omega
   subst hjl
   go_wp2
   go_ret
   rw[midM_full] at hown
   exact⟨rfl,hown,hch⟩

theorem heldMsgS_any (v:Value) (n:Nat) (k:Int) (w:World) (h:Row w v n (flatM (marksM k n))) (hn:n<=4194304) (hk0:0<=k) (hk1:k<=4194304) :
  Calls Tryz.prog 65 #[v, .int .i64 k] w fun e w' =>e= .returned (.int .i64 (k+3*n))/\w' =w:=by
 have h' :Row w v (marksM k n).length (flatM (marksM k n)):=by rw[marksM_length];exact h
 obtain⟨a,b,off,cap,rfl,hcap,hmax,ha,ho,hk,hv⟩:=h'.msgs
 rw[marksM_length] at *
 unfold maxLen at hmax
 clear h h'
 go_enter Tryz.func65,Tryz.ntmps65
 go_wp2
 go_loop [1,5] (fun kk i=>∃j:Nat,j<=n/\i= .int .i64 j/\kk= .int .i64 (k+3*j)) (fun _ i=>n-(intOf i).toNat)
 case atStart=>exact⟨0,Nat.zero_le _,rfl,by simp⟩
 case round=>
  obtain⟨j,hj,rfl,rfl⟩:=hrel
  by_cases hlt:j<n
  ·have hal:=ha (by omega)
   subst hal
   have d0:w.cell? ⟨b,off+j*3,none⟩=some (.int .i64 (k+3*j)):=by rw[ho j hlt,(marksM_at k n j hlt).1]
   have d1:w.cell? ⟨b,off+j*3+1,none⟩=some (.int .i64 (k+3*j+1)):=by rw[hk j hlt,(marksM_at k n j hlt).2.1]
   have d2:w.cell? ⟨b,off+j*3+2,none⟩=some (.int .i64 (k+3*j+1+1)):=by rw[hv j hlt,(marksM_at k n j hlt).2.2,show k+3*(j:Int)+2=k+3*(j:Int)+1+1 by omega]
   clear ho hk hv
   have hb0:0<=k+3*(j:Int):=by omega
   have hb1:k+3*(j:Int)<=100000000:=by omega
   go_wp2
   go_round
   case rel=>exact⟨j+1,by omega,by go_num,by go_num⟩
   case measure=>simp[intOf];omega
  ·have hjl:j=n:=by omega
   subst hjl
   go_wp2
   go_ret
   exact⟨rfl,rfl⟩
end
section
open Go.RowKit

theorem il_ext {l1 l2:List Int} (hl:l1.length=l2.length) (h:∀i,i<l1.length->iAt l1 i=iAt l2 i):l1=l2:=by
 apply List.ext_getElem hl
 intro i h1 h2
 have:=h i h1
 simpa[iAt,List.getD,h1,h2] using this

theorem eqIntS_any (v1 v2:Value) (l1 l2:List Int) (w:World) (h1:Row w v1 l1.length (flatI l1)) (h2:Row w v2 l2.length (flatI l2)) :
  Calls Tryz.prog 56 #[v1,v2] w fun e w' =>e= .returned (.bool (decide (l1=l2)))/\Below w.heap.size w w' :=by
 obtain⟨a,b,off,cap,rfl,hcap,hmax,ha,hk⟩:=h1.ints
 obtain⟨a2,b2,off2,cap2,rfl,hcap2,hmax2,ha2,hk2⟩:=h2.ints
 unfold maxLen at hmax hmax2
 by_cases hl:l1.length=l2.length
 ·have hne:((l1.length:Int) != (l2.length:Int))=false:=by rw[bne_eq_false_iff_eq];omega
  have HL:Hid (l1.length=l2.length):=hl
  have hl2:l1.length<=l2.length:=by omega
  clear hl
  go_enter Tryz.func56,Tryz.ntmps56
  go_wp2
  go_loopw [5] (fun i wr=>∃k:Nat,k<=l1.length/\i= .int .i64 k/\Hid (∀i,i<k->iAt l1 i=iAt l2 i)/\Below w.heap.size w wr)
   (fun i _=>l1.length-(intOf i).toNat)
  case atStart=>exact⟨0,Nat.zero_le _,rfl,fun i hi=>absurd hi (Nat.not_lt_zero _),Below.refl _ _⟩
  case round=>
   obtain⟨k,hkl,rfl,ALL,hb⟩:=hrel
   by_cases hlt:k<l1.length
   ·have hal:=ha (by omega)
    subst hal
    have hal2:=ha2 (by omega)
    subst hal2
    have hlt2:k<l2.length:=by omega
    have d0:=(hb.cell (by exact cell_lt (hk k hlt))).trans (hk k hlt)
    have d1:=(hb.cell (by exact cell_lt (hk2 k hlt2))).trans (hk2 k hlt2)
    clear hk ha hk2 ha2
    by_cases hq:iAt l1 k=iAt l2 k
    ·have hq' :(iAt l1 k != iAt l2 k)=false:=by rw[bne_eq_false_iff_eq];exact hq
     have EQ:Hid (iAt l1 k=iAt l2 k):=hq
     clear hq
     go_wp2_with fail
     go_quiet (fail)
     go_wp2
     go_roundw
     case rel=>exact⟨k+1,by omega,by go_num,fun i hi=>if h:i<k then ALL.out i h else by rw[show i=k by omega];exact EQ.out,below_drewN hb _⟩
     case measure=>simp[intOf];omega
    ·have hq' :(iAt l1 k != iAt l2 k)=true:=by rw[bne_iff_ne];exact hq
     have NE:Hid (decide (l1=l2)=false):=decide_eq_false (fun e=>hq (by rw[e]))
     clear hq
     go_wp2_with fail
     go_quiet (fail)
     go_wp2
     go_ret
     exact⟨ret_bool NE.out.symm,below_drewN hb _⟩
   ·go_wp2
    go_ret
    refine⟨ret_bool ?_,hb⟩
    symm
    rw[decide_eq_true_iff]
    exact il_ext HL.out (fun i hi=>ALL.out i (by omega))
 ·have hne:((l1.length:Int) != (l2.length:Int))=true:=by rw[bne_iff_ne];omega
  go_enter Tryz.func56,Tryz.ntmps56
  go_wp2
  go_ret
  refine⟨ret_bool ?_,Below.refl _ _⟩
  symm
  rw[decide_eq_false_iff_not]
  intro h;exact hl (by rw[h])

def EqTree (n:Nat):Prop:=∀(x y:TV) (T:Tr) (w:World),TreeAt n w x T->TreeAt n w y T→
  Calls Tryz.prog 13 #[x.val,y.val] w fun e w' =>e= .returned (.bool true)/\Below w.heap.size w w'
def EqTreeS (n:Nat):Prop:=∀(v u:Value) (ts:List Tr) (w:World),TreesAt n w v ts->TreesAt n w u ts→
  Calls Tryz.prog 57 #[v,u] w fun e w' =>e= .returned (.bool true)/\Below w.heap.size w w'

theorem eqTreeS_of {n:Nat} (H:EqTree n):EqTreeS n:=by
 intro v u ts w hv hu
 obtain⟨xs,hxl,hrow,hk⟩:=hv
 obtain⟨ys,hyl,hrow2,hk2⟩:=hu
 obtain⟨a,b,off,cap,rfl,hcap,hmax,ha,c0,c1,c2,c3,c4⟩:=hrow.trees
 obtain⟨a2,b2,off2,cap2,rfl,hcap2,hmax2,ha2,g0,g1,g2,g3,g4⟩:=hrow2.trees
 unfold maxLen at hmax hmax2
 have hl2:xs.length<=ys.length:=by omega
 have hne:((xs.length:Int) != (ys.length:Int))=false:=by rw[bne_eq_false_iff_eq];omega
 clear hxl hyl
 go_enter Tryz.func57,Tryz.ntmps57
 go_wp2
 go_loopw [5] (fun i wr=>∃k:Nat,k<=xs.length/\i= .int .i64 k/\Below w.heap.size w wr)
  (fun i _=>xs.length-(intOf i).toNat)
 case atStart=>exact⟨0,Nat.zero_le _,rfl,Below.refl _ _⟩
 case round=>
  obtain⟨k,hkl,rfl,hb⟩:=hrel
  by_cases hlt:k<xs.length
  ·have hal:=ha (by omega)
   subst hal
   have hal2:=ha2 (by omega)
   subst hal2
   have hlt2:k<ys.length:=by omega
   have d0:=(hb.cell (by exact cell_lt (c0 k hlt))).trans (c0 k hlt)
   have d1:=(hb.cell (by exact cell_lt (c1 k hlt))).trans (c1 k hlt)
   have d2:=(hb.cell (by exact cell_lt (c2 k hlt))).trans (c2 k hlt)
   have d3:=(hb.cell (by exact cell_lt (c3 k hlt))).trans (c3 k hlt)
   have d4:=(hb.cell (by exact cell_lt (c4 k hlt))).trans (c4 k hlt)
   have e0:=(hb.cell (by exact cell_lt (g0 k hlt2))).trans (g0 k hlt2)
   have e1:=(hb.cell (by exact cell_lt (g1 k hlt2))).trans (g1 k hlt2)
   have e2:=(hb.cell (by exact cell_lt (g2 k hlt2))).trans (g2 k hlt2)
   have e3:=(hb.cell (by exact cell_lt (g3 k hlt2))).trans (g3 k hlt2)
   have e4:=(hb.cell (by exact cell_lt (g4 k hlt2))).trans (g4 k hlt2)
   have T0:Hid (TreeAt n wr.drew (tvAt xs k) (ts.getD k noTr)):=(hk k hlt).below hb.drew
   have T1:Hid (TreeAt n wr.drew (tvAt ys k) (ts.getD k noTr)):=(hk2 k hlt2).below hb.drew
   clear c0 c1 c2 c3 c4 hk hrow ha g0 g1 g2 g3 g4 hk2 hrow2 ha2
   go_wp2_with fail
   go_region_with (go_at_call 13;refine(H (tvAt xs k) (tvAt ys k) _ _ T0.out T1.out).mono ?_;rintro e w1 ⟨rfl,hb1⟩)
   all_goals
    go_wp2
    go_roundw
    case rel=>exact⟨k+1,by omega,by go_num,hb.drew.trans (hb1.mono hb.size)⟩
    case measure=>simp[intOf];omega
  ·clear c0 c1 c2 c3 c4 hk hrow ha g0 g1 g2 g3 g4 hk2 hrow2 ha2
   go_wp2
   go_ret
   exact⟨rfl,hb⟩

structure TwoAt (u:World) (B:Nat) (A Z:Array Value):Prop where
 h0:u.heap[B]? =some (.cells A 35 (0,0))
 h1:u.heap[B+1]? =some (.cells Z 35 (0,0))
theorem TwoAt.step {u w' :World} {B:Nat} {A Z:Array Value} (h:TwoAt u B A Z) (hb:Below u.heap.size u w'):TwoAt w' B A Z:=by
 have hs:=(Array.getElem?_eq_some_iff.1 h.h1).1
 exact⟨(hb.block _ (by omega)).trans h.h0,(hb.block _ (by omega)).trans h.h1⟩
theorem TwoAt.cells {u:World} {B:Nat} {A Z:Array Value} (h:TwoAt u B A Z):(∀j,u.cell? ⟨B,j,none⟩=A[j]?)/\(∀j,u.cell? ⟨B+1,j,none⟩=Z[j]?):=
 ⟨fun j=>cell_of_row u B j A 35 (0,0) h.h0,fun j=>cell_of_row u (B+1) j Z 35 (0,0) h.h1⟩
theorem TwoAt.start (w:World) (A Z:Array Value):TwoAt ((w.alloc (.cells A 35)).alloc (.cells Z 35)) w.heap.size A Z:=by
 have e:∀(x:World) (o:Obj),(x.alloc o).heap.size=x.heap.size+1:=fun x o=>by simp
 have k1:∀(x:World) (o:Obj) (g:Nat),g<x.heap.size->(x.alloc o).heap[g]? =x.heap[g]? :=fun x o g hg=>((Below.refl x.heap.size x).alloc (Nat.le_refl _) o).block g hg
 refine⟨?_, ?_⟩
 ·rw[k1 _ _ _ (by rw[e];omega)];exact heap_alloc_new w _
 ·rw[←e w (.cells A 35)];exact heap_alloc_new _ _

theorem eqTree_of {n:Nat} (H:EqTreeS n):EqTree (n+1):=by
 intro x y T w ht hu
 obtain⟨lf,p,c,k,b⟩:=x
 obtain⟨lf2,p2,c2,k2,b2⟩:=y
 obtain⟨hlf,hp,hc,hb,hk⟩:=ht.parts
 obtain⟨hlf2,hp2,hc2,hb2,hk2⟩:=hu.parts
 simp only at hlf hp hc hb hk hlf2 hp2 hc2 hb2 hk2
 subst hlf
 subst hlf2
 have R1:Hid (Row w p T.pairs.length (flatP T.pairs)):=hp
 have R2:Hid (Row w c T.cuts.length (flatI T.cuts)):=hc
 have R3:Hid (TreesAt n w k T.kids):=hk
 have R4:Hid (Row w b T.buf.length (flatM T.buf)):=hb
 have Q1:Hid (Row w p2 T.pairs.length (flatP T.pairs)):=hp2
 have Q2:Hid (Row w c2 T.cuts.length (flatI T.cuts)):=hc2
 have Q3:Hid (TreesAt n w k2 T.kids):=hk2
 have Q4:Hid (Row w b2 T.buf.length (flatM T.buf)):=hb2
 clear hp hc hb hk ht hp2 hc2 hb2 hk2 hu
 have hlf:(T.leaf != T.leaf)=false:=by simp
 show Calls Tryz.prog 13 #[.agg #[.bool T.leaf,p,c,k,b], .agg #[.bool T.leaf,p2,c2,k2,b2]] w _
 have B0:Hid (Below w.heap.size w ((w.alloc (.cells #[.bool T.leaf,p,c,k,b] 35)).alloc (.cells #[.bool T.leaf,p2,c2,k2,b2] 35))):=((Below.refl _ _).alloc (Nat.le_refl _) _).alloc (by simp) _
 have S0:Hid (TwoAt _ w.heap.size _ _):=TwoAt.start w #[.bool T.leaf,p,c,k,b] #[.bool T.leaf,p2,c2,k2,b2]
 go_enter Tryz.func13,Tryz.ntmps13
 go_wp2_with fail
 refine(eqPairS_any _ _ _ _ _ (R1.out.below B0.out) (Q1.out.below B0.out)).mono ?_
 rintro e w1 ⟨he,hb1⟩
 rw[decide_eq_true rfl] at he
 subst he
 have B1:Hid (Below w.heap.size w w1):=Below.and B0.out hb1
 have S1:Hid (TwoAt w1 w.heap.size #[.bool T.leaf,p,c,k,b] #[.bool T.leaf,p2,c2,k2,b2]):=S0.out.step hb1
 obtain⟨k0,k1⟩:=S1.out.cells
 clear B0 S0 hb1
 go_wp2_with fail
 refine(eqIntS_any _ _ _ _ _ (R2.out.below B1.out) (Q2.out.below B1.out)).mono ?_
 rintro e w2 ⟨he,hb2⟩
 rw[decide_eq_true rfl] at he
 subst he
 have B2:Hid (Below w.heap.size w w2):=Below.and B1.out hb2
 have S2:Hid (TwoAt w2 w.heap.size #[.bool T.leaf,p,c,k,b] #[.bool T.leaf,p2,c2,k2,b2]):=S1.out.step hb2
 clear B1 S1 hb2 k0 k1
 obtain⟨k0,k1⟩:=S2.out.cells
 go_wp2_with fail
 refine(H _ _ T.kids _ (R3.out.below B2.out) (Q3.out.below B2.out)).mono ?_
 rintro e w3 ⟨rfl,hb3⟩
 have B3:Hid (Below w.heap.size w w3):=Below.and B2.out hb3
 have S3:Hid (TwoAt w3 w.heap.size #[.bool T.leaf,p,c,k,b] #[.bool T.leaf,p2,c2,k2,b2]):=S2.out.step hb3
 clear B2 S2 hb3 k0 k1
 obtain⟨k0,k1⟩:=S3.out.cells
 go_wp2_with fail
 refine(eqMsgS_any _ _ _ _ _ (R4.out.below B3.out) (Q4.out.below B3.out)).mono ?_
 rintro e w4 ⟨he,hb4⟩
 rw[decide_eq_true rfl] at he
 subst he
 have B4:Hid (Below w.heap.size w w4):=Below.and B3.out hb4
 clear B3 S3 hb4 k0 k1
 go_wp2
 go_ret
 exact⟨rfl,B4.out⟩

theorem eqTree_any:∀n,EqTree n
 |0=>fun _ _ _ _ h=>h.elim
 |n+1=>eqTree_of (eqTreeS_of (eqTree_any n))
end
end Go.Proofs.YtcmofojechfccaaGreat
