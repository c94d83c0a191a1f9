/-
  A node's parts, each in blocks of its own: what marks are written into.
  New machines of both sides; a list that is made; a region whose operations come in whatever order, by states.
  A node whose lists lie in some blocks: what keeps it as it is.
  An Rpc's parts, each in blocks of its own: what marks are written into.
  The parts of a node, marked, are a node in blocks of its own again.
-/
import Derived.Test.YtkcaelfkcepdkaaGreatOfNote11
import Derived.Test.YtkcaelfkcepdkaaGreatOfNote12
import Derived.Test.YtkcaelfkcepdkaaGreatOfNote16
import Derived.Test.YtkcaelfkcepdkaaGreatOfNote22
import Derived.Test.YtkcaelfkcepdkaaGreatOfNote6
import Derived.Test.YtkcaelfkcepdkaaGreatOfNote21
import Derived.Test.YtkcaelfkcepdkaaGreatOfNote9
import Derived.OwnWalk
import Derived.Deep.RegionHeld3
namespace Go.Proofs.YtkcaelfkcepdkaaGreat
set_option maxRecDepth 100000
set_option maxHeartbeats 8000000
section
open Go.RowKit

def AB (w:World) (S:Nat->Prop) (e size:Nat) (v:Value) (n:Nat) (xs:List Value):Prop:=Ac w 0 e size v n xs/\∀g,wrB v g->S g
theorem AB.chg {w w' :World} {S P:Nat->Prop} {e size n:Nat} {v:Value} {xs:List Value} (h:AB w S e size v n xs) (hc:Chg P w w') (hP:∀g,S g->¬P g):AB w' S e size v n xs:=⟨h.1.chg hc (fun g hg=>hP g (h.2 g hg)),h.2⟩
def Fg (n:Nat) (w:World) (S:Nat->Prop) (v:Value) (ts:List Tr):Prop:=
 ∃(xs:List TV) (K:Nat->Nat->Prop),xs.length=ts.length/\Ac w 0 69 5 v xs.length (AA xs)/\(∀i,i<xs.length->Aw n w (K i) (Ak xs i) (ts.getD i AR))∧
  (∀i g,i<xs.length->K i g->S g/\¬wrB v g)/\(∀i j g,i<j->j<xs.length->K i g->¬K j g)/\∀g,wrB v g->S g
theorem Fg.chg {n:Nat} {w w' :World} {S P:Nat->Prop} {v:Value} {ts:List Tr} (h:Fg n w S v ts) (hc:Chg P w w') (hP:∀g,S g->¬P g):Fg n w' S v ts:=by
 obtain⟨xs,K,h1,h2,h3,h4,h5,h6⟩:=h
 exact⟨xs,K,h1,h2.chg hc (fun g hg=>hP g (h6 g hg)),fun i hi=>(h3 i hi).chg hc (fun g hg=>hP g (h4 i g hi hg).1),h4,h5,h6⟩

theorem Si {S:Nat->Prop} {v:Value} {l:EL} {w:World} (h:AB w S 119 6 v l.length (Af l)) (k:Int) (hk0:0<=k) (hk1:k+6*l.length<=67108864) :
  Calls Tryz.prog 45 #[v, .int .i64 k] w fun e w' =>e= .returned (.int .i64 (k+6*l.length))/\AB w' S 119 6 v (Bh k l.length).length (Af (Bh k l.length))/\Chg S w w' :=by
 refine(GR 0 v l k w h.1 (by omega) hk0 (by omega)).mono ?_
 rintro e w' ⟨a,b,c⟩
 exact⟨a,⟨by rw[Br];exact b,h.2⟩,c.mono (fun g _ hg=>h.2 g hg)⟩
theorem Qt {S:Nat->Prop} {v:Value} {l:DL} {w:World} (h:AB w S 141 4 v l.length (Au l)) (k:Int) (hk0:0<=k) (hk1:k+4*l.length<=67108864) :
  Calls Tryz.prog 43 #[v, .int .i64 k] w fun e w' =>e= .returned (.int .i64 (k+4*l.length))/\AB w' S 141 4 v (AG k l.length).length (Au (AG k l.length))/\Chg S w w' :=by
 refine(Ek 0 v l k w h.1 (by omega) hk0 (by omega)).mono ?_
 rintro e w' ⟨a,b,c⟩
 exact⟨a,⟨by rw[A9];exact b,h.2⟩,c.mono (fun g _ hg=>h.2 g hg)⟩
theorem Tt {S:Nat->Prop} {v:Value} {l:List Bool} {w:World} (h:AB w S 4 1 v l.length (AJ l)) (k:Int) (hk0:0<=k) (hk1:k+l.length<=67108864) :
  Calls Tryz.prog 73 #[v, .int .i64 k] w fun e w' =>e= .returned (.int .i64 (k+l.length))/\AB w' S 4 1 v (BI k l.length).length (AJ (BI k l.length))/\Chg S w w' :=by
 refine(H5 0 v l k w h.1 (by omega) hk0 (by omega)).mono ?_
 rintro e w' ⟨a,b,c⟩
 exact⟨a,⟨by rw[BM];exact b,h.2⟩,c.mono (fun g _ hg=>h.2 g hg)⟩
theorem L7 {S:Nat->Prop} {v:Value} {l:List Int} {w:World} (h:AB w S 3 1 v l.length (Am l)) (k:Int) (hk0:0<=k) (hk1:k+l.length<=67108864) :
  Calls Tryz.prog 47 #[v, .int .i64 k] w fun e w' =>e= .returned (.int .i64 (k+l.length))/\AB w' S 3 1 v (AS k l.length).length (Am (AS k l.length))/\Chg S w w' :=by
 refine(Ea 0 v l k w h.1 (by omega) hk0 (by omega)).mono ?_
 rintro e w' ⟨a,b,c⟩
 exact⟨a,⟨by rw[AO];exact b,h.2⟩,c.mono (fun g _ hg=>h.2 g hg)⟩
theorem Qj {S:Nat->Prop} {v:Value} {l:List (Int × Int)} {w:World} (h:AB w S 157 2 v l.length (AF l)) (k:Int) (hk0:0<=k) (hk1:k+2*l.length<=67108864) :
  Calls Tryz.prog 46 #[v, .int .i64 k] w fun e w' =>e= .returned (.int .i64 (k+2*l.length))/\AB w' S 157 2 v (Bn k l.length).length (AF (Bn k l.length))/\Chg S w w' :=by
 refine(Fp 0 v l k w h.1 (by omega) hk0 (by omega)).mono ?_
 rintro e w' ⟨a,b,c⟩
 exact⟨a,⟨by rw[Be];exact b,h.2⟩,c.mono (fun g _ hg=>h.2 g hg)⟩
theorem QC {S:Nat->Prop} {v:Value} {l:ML} {w:World} (h:AB w S 115 3 v l.length (AW l)) (k:Int) (hk0:0<=k) (hk1:k+3*l.length<=67108864) :
  Calls Tryz.prog 49 #[v, .int .i64 k] w fun e w' =>e= .returned (.int .i64 (k+3*l.length))/\AB w' S 115 3 v (Bl k l.length).length (AW (Bl k l.length))/\Chg S w w' :=by
 refine(Gl 0 v l k w h.1 (by omega) hk0 (by omega)).mono ?_
 rintro e w' ⟨a,b,c⟩
 exact⟨a,⟨by rw[Bd];exact b,h.2⟩,c.mono (fun g _ hg=>h.2 g hg)⟩
theorem Q6 {n:Nat} {S:Nat->Prop} {v:Value} {ts:List Tr} {w:World} (h:Fg n w S v ts) (k:Int) (hk0:0<=k) (hk1:k+(B6 n ts:Nat)<=67108864) :
  Calls Tryz.prog 48 #[v, .int .i64 k] w fun e w' =>e= .returned (.int .i64 (k+(B6 n ts:Nat)))/\Fg n w' S v (Cn n k ts)/\Chg S w w' :=by
 obtain⟨xs,K,h1,h2,h3,h4,h5,h6⟩:=h
 refine(Gx n v xs ts K k w h1 h2 h3 (fun i g hi hg=>(h4 i g hi hg).2) h5 hk0 hk1).mono ?_
 rintro e w' ⟨a,⟨ys,b1,b2,b3⟩,c⟩
 refine⟨a,⟨ys,K,by rw[DF,b1,h1],b2,fun i hi=>b3 i (by omega),fun i g hi=>h4 i g (by omega),fun i j g hij hj=>h5 i j g hij (by omega),h6⟩,c.mono (fun g _ hg=> ?_)⟩
 rcases hg with hg|⟨i,hi,hg⟩
 ·exact h6 g hg
 ·exact(h4 i g hi hg).1

def mS (m:Bv):Nat->Nat->Prop
 |0,g=>wrB m.x.p g
 |1,g=>wrB m.x.c g/\¬wrB m.x.p g
 |2,g=>¬wrB m.x.p g/\¬wrB m.x.c g/\¬wrB m.x.b g/\¬wrB m.v g
 |3,g=>wrB m.x.b g/\¬wrB m.x.p g/\¬wrB m.x.c g
 |4,g=>wrB m.v g/\¬wrB m.x.p g/\¬wrB m.x.c g/\¬wrB m.x.b g
 |_+5,_=>False
theorem N0 {m:Bv} {g:Nat}:∀ {q r:Nat},mS m q g->mS m r g->q=r:=by
 intro q r h1 h2;rcases q with _|_|_|_|_|q<;>rcases r with _|_|_|_|_|r<;>simp_all[mS]
def mP (n:Nat) (S:Nat->Nat->Prop) (m:Bv) (T:Tr) (l:DL) (w:World):Nat->Prop
 |0=>AB w (S 0) 157 2 m.x.p T.pairs.length (AF T.pairs)
 |1=>AB w (S 1) 3 1 m.x.c T.cuts.length (Am T.cuts)
 |2=>Fg n w (S 2) m.x.k T.kids
 |3=>AB w (S 3) 115 3 m.x.b T.buf.length (AW T.buf)
 |4=>AB w (S 4) 141 4 m.v l.length (Au l)
 |_+5=>True
theorem AQ.parts {n:Nat} {w:World} {A:Nat->Prop} {m:Bv} {T:Tr} {l:DL} (h:AQ (n+1) w A m T l) {S:Nat->Nat->Prop} (hS:∀r g,r<5->A g->mS m r g->S r g):∀r,mP n S m T l w r:=by
 obtain⟨⟨_,b1,b2,b3,b4,xs,K,b5,b6,b7,b8,b9⟩,o1,o2⟩:=h
 intro r;rcases r with _|_|_|_|_|r
 ·exact⟨b1,fun g hg=>hS 0 g (by omega) (b4 g (.inl hg)) hg⟩
 ·exact⟨b2,fun g hg=>hS 1 g (by omega) (b4 g (.inr (.inl hg))) ⟨hg,As b2 b1 (by decide) hg⟩⟩
 ·exact⟨xs,fun i g=>K i g/\¬wrB m.v g,b5,b6,fun i hi=>(b7 i hi).off (by decide) (by decide) (by decide) (by decide) o1,
   fun i g hi hg=>⟨hS 2 g (by omega) (b8 i g hi hg.1).1 ⟨fun e=>(b8 i g hi hg.1).2 (.inl e),fun e=>(b8 i g hi hg.1).2 (.inr (.inl e)),fun e=>(b8 i g hi hg.1).2 (.inr (.inr (.inl e))),hg.2⟩,fun e=>(b8 i g hi hg.1).2 (.inr (.inr (.inr e)))⟩,
   fun i j g hij hj a b=>b9 i j g hij hj a.1 b.1,
   fun g hg=>hS 2 g (by omega) (b4 g (.inr (.inr (.inr hg)))) ⟨As b6 b1 (by decide) hg,As b6 b2 (by decide) hg,As b6 b3 (by decide) hg,As b6 o1 (by decide) hg⟩⟩
 ·exact⟨b3,fun g hg=>hS 3 g (by omega) (b4 g (.inr (.inr (.inl hg)))) ⟨hg,As b3 b1 (by decide) hg,As b3 b2 (by decide) hg⟩⟩
 ·exact⟨o1,fun g hg=>hS 4 g (by omega) (o2 g hg) ⟨hg,As o1 b1 (by decide) hg,As o1 b2 (by decide) hg,As o1 b3 (by decide) hg⟩⟩
 ·trivial
theorem mP.at {n:Nat} {S:Nat->Nat->Prop} {m m' :Bv} {T:Tr} {l:DL} {w:World} (h0:mP n S m T l w 0) (h1:mP n S m T l w 1) (h2:mP n S m T l w 2) (h3:mP n S m T l w 3) (h4:mP n S m T l w 4) (hm:m' =⟨⟨T.leaf,m.x.p,m.x.c,m.x.k,m.x.b⟩,m.v⟩):DJ (n+1) w m' T l:=by
 subst hm;obtain⟨xs,K,k1,k2,k3,_⟩:=h2
 exact⟨Bb.mk rfl h0.1.rowF.row h1.1.rowF.row h3.1.rowF.row ⟨xs,k1,k2.rowF.row,fun i hi=>(k3 i hi).treeF.treeAt⟩,h4.1.rowF.row⟩

def Eg (n:Nat) (w:World) (F:Nat->Prop) (N:AL) (D:Nd):Prop:=
 ∃A:Nat->Nat->Prop,(∀s t g,A s g->A t g->s=t)/\(∀s g,A s g->F g)/\AB w (A 0) 119 6 N.lv D.l.length (Af D.l)/\AQ n w (A 1) N.s D.T1 D.d1∧
  AB w (A 2) 4 1 N.vv D.vs.length (AJ D.vs)/\AB w (A 3) 3 1 N.nv D.nx.length (Am D.nx)/\AB w (A 4) 3 1 N.mv D.mt.length (Am D.mt)/\AQ n w (A 5) N.o D.T2 D.d2
theorem Eg.chg {n:Nat} {w w' :World} {F P:Nat->Prop} {N:AL} {D:Nd} (h:Eg n w F N D) (hc:Chg P w w') (hP:∀g,F g->¬P g):Eg n w' F N D:=by
 obtain⟨A,h1,h2,o1,o2,o3,o4,o5,o6⟩:=h
 exact⟨A,h1,h2,o1.chg hc (fun g hg=>hP g (h2 _ g hg)),AQ.chg o2 hc (fun g hg=>hP g (h2 _ g hg)),o3.chg hc (fun g hg=>hP g (h2 _ g hg)),o4.chg hc (fun g hg=>hP g (h2 _ g hg)),o5.chg hc (fun g hg=>hP g (h2 _ g hg)),AQ.chg o6 hc (fun g hg=>hP g (h2 _ g hg))⟩
theorem Eg.below {n:Nat} {w w' :World} {F:Nat->Prop} {N:AL} {D:Nd} (h:Eg n w F N D) (hb:Below w.heap.size w w'):Eg n w' F N D:=h.chg (Chg.of_below (F:=fun _=>False) hb) (fun _ _ e=>e)
theorem Eg.at {n:Nat} {w:World} {F:Nat->Prop} {N:AL} {D:Nd} (h:Eg n w F N D):Bq n w N D:=by
 obtain⟨A,_,_,o1,o2,o3,o4,o5,o6⟩:=h
 exact⟨o1.1.rowF.row,AQ.at o2,o3.1.rowF.row,o4.1.rowF.row,o5.1.rowF.row,AQ.at o6⟩
theorem Ck.own {n:Nat} {w:World} {lo hi:Nat} {N:AL} {D:Nd} (h:Ck n w lo hi N D):Eg n w (fun g=>lo<=g/\g<hi) N D:=by
 obtain⟨c1,c2,c3,c4,c5,c6,h1,h2,h3,h4,h5,h6,h7,h8,o1,o2,o3,o4,o5,o6⟩:=h
 refine⟨fun s g=>match s with|0=>lo<=g/\g<c1|1=>c1<=g/\g<c2|2=>c2<=g/\g<c3|3=>c3<=g/\g<c4|4=>c4<=g/\g<c5|5=>c5<=g/\g<c6|_=>False, ?_, ?_,⟨o1.1.mono (Nat.zero_le _),fun g hg=>⟨(o1.1.lt g hg).1,o1.2 g hg⟩⟩,o2,⟨o3.1.mono (Nat.zero_le _),fun g hg=>⟨(o3.1.lt g hg).1,o3.2 g hg⟩⟩,⟨o4.1.mono (Nat.zero_le _),fun g hg=>⟨(o4.1.lt g hg).1,o4.2 g hg⟩⟩,⟨o5.1.mono (Nat.zero_le _),fun g hg=>⟨(o5.1.lt g hg).1,o5.2 g hg⟩⟩,o6⟩
 ·intro s t g a b;rcases s with _|_|_|_|_|_|s<;>rcases t with _|_|_|_|_|_|t<;>simp only at a b<;>omega
 ·intro s g a;rcases s with _|_|_|_|_|_|s<;>simp only at a<;>omega
def cd (r:Nat):Nat:=if r=0 then 0 else if r<=5 then 1 else if r<=8 then r-4 else 5
def nS (A:Nat->Nat->Prop) (N:AL) (r g:Nat):Prop:=r<14/\A (cd r) g/\(1<=r->r<=5->mS N.s (r-1) g)/\(9<=r->mS N.o (r-9) g)
theorem SF {A:Nat->Nat->Prop} {N:AL} (hA:∀s t g,A s g->A t g->s=t) {r r' g:Nat} (h:nS A N r g) (h' :nS A N r' g):r=r' :=by
 have e:=hA _ _ _ h.2.1 h'.2.1
 have b:=h.1
 have b' :=h'.1
 unfold cd at e;by_cases h1:1<=r/\r<=5
 ·have h2:1<=r' ∧r' <=5:=by (repeat' split at e)<;>omega
  have:=N0 (h.2.2.1 h1.1 h1.2) (h'.2.2.1 h2.1 h2.2)
  omega
 ·by_cases h3:9<=r
  ·have h4:9<=r' :=by (repeat' split at e)<;>omega
   have:=N0 (h.2.2.2 h3) (h'.2.2.2 h4)
   omega
  ·(repeat' split at e)<;>omega
def nP (n:Nat) (S:Nat->Nat->Prop) (N:AL) (D:Nd) (w:World):Nat->Prop
 |0=>AB w (S 0) 119 6 N.lv D.l.length (Af D.l)
 |1=>AB w (S 1) 157 2 N.s.x.p D.T1.pairs.length (AF D.T1.pairs)
 |2=>AB w (S 2) 3 1 N.s.x.c D.T1.cuts.length (Am D.T1.cuts)
 |3=>Fg n w (S 3) N.s.x.k D.T1.kids
 |4=>AB w (S 4) 115 3 N.s.x.b D.T1.buf.length (AW D.T1.buf)
 |5=>AB w (S 5) 141 4 N.s.v D.d1.length (Au D.d1)
 |6=>AB w (S 6) 4 1 N.vv D.vs.length (AJ D.vs)
 |7=>AB w (S 7) 3 1 N.nv D.nx.length (Am D.nx)
 |8=>AB w (S 8) 3 1 N.mv D.mt.length (Am D.mt)
 |9=>AB w (S 9) 157 2 N.o.x.p D.T2.pairs.length (AF D.T2.pairs)
 |10=>AB w (S 10) 3 1 N.o.x.c D.T2.cuts.length (Am D.T2.cuts)
 |11=>Fg n w (S 11) N.o.x.k D.T2.kids
 |12=>AB w (S 12) 115 3 N.o.x.b D.T2.buf.length (AW D.T2.buf)
 |13=>AB w (S 13) 141 4 N.o.v D.d2.length (Au D.d2)
 |_+14=>True
theorem nP.chg {n:Nat} {S:Nat->Nat->Prop} {N:AL} {D:Nd} {w w' :World} {P:Nat->Prop} {r:Nat} (h:nP n S N D w r) (hc:Chg P w w') (hp:∀g,S r g->¬P g):nP n S N D w' r:=by
 rcases r with _|_|_|_|_|_|_|_|_|_|_|_|_|_|r
 ·exact AB.chg h hc hp
 ·exact AB.chg h hc hp
 ·exact AB.chg h hc hp
 ·exact Fg.chg h hc hp
 ·exact AB.chg h hc hp
 ·exact AB.chg h hc hp
 ·exact AB.chg h hc hp
 ·exact AB.chg h hc hp
 ·exact AB.chg h hc hp
 ·exact AB.chg h hc hp
 ·exact AB.chg h hc hp
 ·exact Fg.chg h hc hp
 ·exact AB.chg h hc hp
 ·exact AB.chg h hc hp
 ·trivial
theorem Eg.parts {n:Nat} {w:World} {F:Nat->Prop} {N:AL} {D:Nd} (h:Eg (n+1) w F N D):∃A:Nat->Nat->Prop,(∀s t g,A s g->A t g->s=t)/\(∀s g,A s g->F g)/\∀r,nP n (nS A N) N D w r:=by
 obtain⟨A,h1,h2,o1,o2,o3,o4,o5,o6⟩:=h
 have p1:=AQ.parts (S:=fun q=>nS A N (q+1)) o2 (fun r g hr ha hm=>⟨by omega,by rw[show cd (r+1)=1 by unfold cd;(repeat' split)<;>omega];exact ha,fun _ _=>hm,fun e=>absurd e (by omega)⟩)
 have p2:=AQ.parts (S:=fun q=>nS A N (q+9)) o6 (fun r g hr ha hm=>⟨by omega,by rw[show cd (r+9)=5 by unfold cd;(repeat' split)<;>omega];exact ha,fun _ e=>absurd e (by omega),fun _=>hm⟩)
 refine⟨A,h1,h2,fun r=> ?_⟩
 rcases r with _|_|_|_|_|_|_|_|_|_|_|_|_|_|r
 ·exact⟨o1.1,fun g hg=>⟨by omega,o1.2 g hg,fun e=>absurd e (by omega),fun e=>absurd e (by omega)⟩⟩
 ·exact p1 0
 ·exact p1 1
 ·exact p1 2
 ·exact p1 3
 ·exact p1 4
 ·exact⟨o3.1,fun g hg=>⟨by omega,o3.2 g hg,fun _ e=>absurd e (by omega),fun e=>absurd e (by omega)⟩⟩
 ·exact⟨o4.1,fun g hg=>⟨by omega,o4.2 g hg,fun _ e=>absurd e (by omega),fun e=>absurd e (by omega)⟩⟩
 ·exact⟨o5.1,fun g hg=>⟨by omega,o5.2 g hg,fun _ e=>absurd e (by omega),fun e=>absurd e (by omega)⟩⟩
 ·exact p2 0
 ·exact p2 1
 ·exact p2 2
 ·exact p2 3
 ·exact p2 4
 ·trivial
theorem nP.at {n:Nat} {S:Nat->Nat->Prop} {N N' :AL} {D:Nd} {w:World} (h:∀r,r<14->nP n S N D w r) (hl:N'.lv=N.lv) (hs:N'.s=⟨⟨D.T1.leaf,N.s.x.p,N.s.x.c,N.s.x.k,N.s.x.b⟩,N.s.v⟩) (hv:N'.vv=N.vv) (hn:N'.nv=N.nv) (hm:N'.mv=N.mv) (ho:N'.o=⟨⟨D.T2.leaf,N.o.x.p,N.o.x.c,N.o.x.k,N.o.x.b⟩,N.o.v⟩):Bq (n+1) w N' D:=by
 have a0:AB w (S 0) _ _ _ _ _:=h 0 (by omega)
 have a6:AB w (S 6) _ _ _ _ _:=h 6 (by omega)
 have a7:AB w (S 7) _ _ _ _ _:=h 7 (by omega)
 have a8:AB w (S 8) _ _ _ _ _:=h 8 (by omega)
 refine⟨by rw[hl];exact a0.1.rowF.row, ?_,by rw[hv];exact a6.1.rowF.row,by rw[hn];exact a7.1.rowF.row,by rw[hm];exact a8.1.rowF.row, ?_⟩
 ·exact mP.at (S:=fun q=>S (q+1)) (m:=N.s) (h 1 (by omega)) (h 2 (by omega)) (h 3 (by omega)) (h 4 (by omega)) (h 5 (by omega)) hs
 ·exact mP.at (S:=fun q=>S (q+9)) (m:=N.o) (h 9 (by omega)) (h 10 (by omega)) (h 11 (by omega)) (h 12 (by omega)) (h 13 (by omega)) ho
end
section
open Go.RowKit

abbrev Us:Value:= .agg #[.bool true, .slice none 0 0, .slice none 0 0, .slice none 0 0, .slice none 0 0]
abbrev UK:Value:= .agg #[.bool true, .slice none 0 0, .slice none 0 0, .slice none 0 0, .slice none 0 0, .slice none 0 0]
def nwT:Tr:=⟨true,[],[],[],[]⟩
def eM:Bv:=⟨⟨true, .slice none 0 0, .slice none 0 0, .slice none 0 0, .slice none 0 0⟩, .slice none 0 0⟩
def zT:Tr:=⟨false,[],[],[],[]⟩
def zM:Bv:=⟨⟨false, .slice none 0 0, .slice none 0 0, .slice none 0 0, .slice none 0 0⟩, .slice none 0 0⟩
def Vl (a b c d e:Bool):Nat:=(if a then 0 else 1)+(if b then 0 else 1)+(if c then 0 else 1)+(if d then 0 else 1)+(if e then 0 else 1)
end
section
open Go.RowKit

theorem AB.ltS {w:World} {S:Nat->Prop} {e size n:Nat} {v:Value} {xs:List Value} (h:AB w S e size v n xs):AB w (fun g=>S g/\g<w.heap.size) e size v n xs:=⟨h.1,fun g hg=>⟨h.2 g hg,(h.1.lt g hg).2⟩⟩
theorem AB.mono {w:World} {S S' :Nat->Prop} {e size n:Nat} {v:Value} {xs:List Value} (h:AB w S e size v n xs) (hs:∀g,S g->S' g):AB w S' e size v n xs:=⟨h.1,fun g hg=>hs g (h.2 g hg)⟩
def Ey (n:Nat) (w:World) (F:Nat->Prop) (N:AL) (D:Nd):Prop:=
 AB w F 119 6 N.lv D.l.length (Af D.l)/\AQ n w F N.s D.T1 D.d1/\AB w F 4 1 N.vv D.vs.length (AJ D.vs)/\AB w F 3 1 N.nv D.nx.length (Am D.nx)/\AB w F 3 1 N.mv D.mt.length (Am D.mt)/\AQ n w F N.o D.T2 D.d2
theorem Ey.chg {n:Nat} {w w' :World} {F P:Nat->Prop} {N:AL} {D:Nd} (h:Ey n w F N D) (hc:Chg P w w') (hP:∀g,F g->¬P g):Ey n w' F N D:=by
 obtain⟨o1,o2,o3,o4,o5,o6⟩:=h
 exact⟨o1.chg hc hP,AQ.chg o2 hc hP,o3.chg hc hP,o4.chg hc hP,o5.chg hc hP,AQ.chg o6 hc hP⟩
theorem Ey.below {n:Nat} {w w' :World} {F:Nat->Prop} {N:AL} {D:Nd} (h:Ey n w F N D) (hb:Below w.heap.size w w'):Ey n w' F N D:=h.chg (Chg.of_below (F:=fun _=>False) hb) (fun _ _ e=>e)
theorem AQ.monoF {n:Nat} {w:World} {F G:Nat->Prop} {m:Bv} {T:Tr} {l:DL} (h:AQ n w F m T l) (hg:∀g,F g->G g):AQ n w G m T l:=⟨h.1.mono hg,h.2.1,fun g e=>hg g (h.2.2 g e)⟩
theorem Ey.ltF {n:Nat} {w:World} {F:Nat->Prop} {N:AL} {D:Nd} (h:Ey n w F N D):Ey n w (fun g=>F g/\g<w.heap.size) N D:=by
 obtain⟨o1,o2,o3,o4,o5,o6⟩:=h
 exact⟨o1.ltS,⟨o2.1.lt,o2.2.1,fun g e=>⟨o2.2.2 g e,(o2.2.1.lt g e).2⟩⟩,o3.ltS,o4.ltS,o5.ltS,⟨o6.1.lt,o6.2.1,fun g e=>⟨o6.2.2 g e,(o6.2.1.lt g e).2⟩⟩⟩
theorem Ey.at {n:Nat} {w:World} {F:Nat->Prop} {N:AL} {D:Nd} (h:Ey n w F N D):Bq n w N D:=by
 obtain⟨o1,o2,o3,o4,o5,o6⟩:=h
 exact⟨o1.1.rowF.row,AQ.at o2,o3.1.rowF.row,o4.1.rowF.row,o5.1.rowF.row,AQ.at o6⟩
end
section
open Go.RowKit

def Ee (n:Nat) (w:World) (F:Nat->Prop) (N:BP) (D:Rd):Prop:=
 ∃A:Nat->Nat->Prop,(∀s t g,A s g->A t g->s=t)/\(∀s g,A s g->F g)/\AB w (A 0) 119 6 N.ev D.l.length (Af D.l)/\AQ n w (A 1) N.s D.T D.d
theorem Ee.chg {n:Nat} {w w' :World} {F P:Nat->Prop} {N:BP} {D:Rd} (h:Ee n w F N D) (hc:Chg P w w') (hP:∀g,F g->¬P g):Ee n w' F N D:=by
 obtain⟨A,h1,h2,o1,o2⟩:=h
 exact⟨A,h1,h2,o1.chg hc (fun g hg=>hP g (h2 _ g hg)),AQ.chg o2 hc (fun g hg=>hP g (h2 _ g hg))⟩
theorem Ee.below {n:Nat} {w w' :World} {F:Nat->Prop} {N:BP} {D:Rd} (h:Ee n w F N D) (hb:Below w.heap.size w w'):Ee n w' F N D:=h.chg (Chg.of_below (F:=fun _=>False) hb) (fun _ _ e=>e)
theorem Ee.at {n:Nat} {w:World} {F:Nat->Prop} {N:BP} {D:Rd} (h:Ee n w F N D):Cu n w N D:=by
 obtain⟨A,_,_,o1,o2⟩:=h
 exact⟨o1.1.rowF.row,AQ.at o2⟩
def rS (A:Nat->Nat->Prop) (N:BP) (r g:Nat):Prop:=r<6/\A (if r=0 then 0 else 1) g/\(1<=r->mS N.s (r-1) g)
theorem SU {A:Nat->Nat->Prop} {N:BP} (hA:∀s t g,A s g->A t g->s=t) {r r' g:Nat} (h:rS A N r g) (h' :rS A N r' g):r=r' :=by
 have e:=hA _ _ _ h.2.1 h'.2.1
 by_cases h1:r=0
 ·subst h1;simp only[if_true] at e
  by_cases h2:r' =0
  ·exact h2.symm
  ·rw[if_neg h2] at e;omega
 ·have h2:r' ≠0:=fun h2=>by rw[if_neg h1,if_pos h2] at e;omega
  have:=N0 (h.2.2 (by omega)) (h'.2.2 (by omega))
  omega
def rP (n:Nat) (S:Nat->Nat->Prop) (N:BP) (D:Rd) (w:World):Nat->Prop
 |0=>AB w (S 0) 119 6 N.ev D.l.length (Af D.l)
 |1=>AB w (S 1) 157 2 N.s.x.p D.T.pairs.length (AF D.T.pairs)
 |2=>AB w (S 2) 3 1 N.s.x.c D.T.cuts.length (Am D.T.cuts)
 |3=>Fg n w (S 3) N.s.x.k D.T.kids
 |4=>AB w (S 4) 115 3 N.s.x.b D.T.buf.length (AW D.T.buf)
 |5=>AB w (S 5) 141 4 N.s.v D.d.length (Au D.d)
 |_+6=>True
theorem rP.chg {n:Nat} {S:Nat->Nat->Prop} {N:BP} {D:Rd} {w w' :World} {P:Nat->Prop} {r:Nat} (h:rP n S N D w r) (hc:Chg P w w') (hp:∀g,S r g->¬P g):rP n S N D w' r:=by
 rcases r with _|_|_|_|_|_|r
 ·exact AB.chg h hc hp
 ·exact AB.chg h hc hp
 ·exact AB.chg h hc hp
 ·exact Fg.chg h hc hp
 ·exact AB.chg h hc hp
 ·exact AB.chg h hc hp
 ·trivial
theorem Ee.parts {n:Nat} {w:World} {F:Nat->Prop} {N:BP} {D:Rd} (h:Ee (n+1) w F N D):∃A:Nat->Nat->Prop,(∀s t g,A s g->A t g->s=t)/\(∀s g,A s g->F g)/\∀r,rP n (rS A N) N D w r:=by
 obtain⟨A,h1,h2,o1,o2⟩:=h
 have p1:=AQ.parts (S:=fun q=>rS A N (q+1)) o2 (fun r g hr ha hm=>⟨by omega,by rw[if_neg (by omega)];exact ha,fun _=>hm⟩)
 refine⟨A,h1,h2,fun r=> ?_⟩
 rcases r with _|_|_|_|_|_|r
 ·exact⟨o1.1,fun g hg=>⟨by omega,o1.2 g hg,fun e=>absurd e (by omega)⟩⟩
 ·exact p1 0
 ·exact p1 1
 ·exact p1 2
 ·exact p1 3
 ·exact p1 4
 ·trivial
theorem rP.at {n:Nat} {S:Nat->Nat->Prop} {N N' :BP} {D:Rd} {w:World} (h:∀r,r<6->rP n S N D w r) (hl:N'.ev=N.ev) (hs:N'.s=⟨⟨D.T.leaf,N.s.x.p,N.s.x.c,N.s.x.k,N.s.x.b⟩,N.s.v⟩):Cu (n+1) w N' D:=by
 have a0:AB w (S 0) _ _ _ _ _:=h 0 (by omega)
 exact⟨by rw[hl];exact a0.1.rowF.row,mP.at (S:=fun q=>S (q+1)) (m:=N.s) (h 1 (by omega)) (h 2 (by omega)) (h 3 (by omega)) (h 4 (by omega)) (h 5 (by omega)) hs⟩
end
section
open Go.RowKit

theorem mP.own {n:Nat} {S:Nat->Nat->Prop} {A:Nat->Prop} {m m' :Bv} {T:Tr} {l:DL} {w:World} (hA:∀q g,q<5->S q g->A g) (hk:∀g,S 2 g->¬(wrB m.x.p g∨wrB m.x.c g∨wrB m.x.b g)) (h0:mP n S m T l w 0) (h1:mP n S m T l w 1) (h2:mP n S m T l w 2) (h3:mP n S m T l w 3) (h4:mP n S m T l w 4) (hm:m' =⟨⟨T.leaf,m.x.p,m.x.c,m.x.k,m.x.b⟩,m.v⟩):AQ (n+1) w A m' T l:=by
 subst hm;obtain⟨xs,K,k1,k2,k3,k4,k5,k6⟩:=h2
 refine⟨⟨rfl,h0.1,h1.1,h3.1,fun g hg=> ?_,xs,K,k1,k2,k3,fun i g hi hg=>⟨hA 2 g (by omega) (k4 i g hi hg).1,fun e=> ?_⟩,k5⟩,h4.1,fun g hg=>hA 4 g (by omega) (h4.2 g hg)⟩
 ·rcases hg with hg|hg|hg|hg
  ·exact hA 0 g (by omega) (h0.2 g hg)
  ·exact hA 1 g (by omega) (h1.2 g hg)
  ·exact hA 3 g (by omega) (h3.2 g hg)
  ·exact hA 2 g (by omega) (k6 g hg)
 ·rcases e with e|e|e|e
  ·exact hk g (k4 i g hi hg).1 (.inl e)
  ·exact hk g (k4 i g hi hg).1 (.inr (.inl e))
  ·exact hk g (k4 i g hi hg).1 (.inr (.inr e))
  ·exact(k4 i g hi hg).2 e
theorem nP.own {n:Nat} {A:Nat->Nat->Prop} {F:Nat->Prop} {N N' :AL} {D:Nd} {w:World} (hA:∀s t g,A s g->A t g->s=t) (hF:∀s g,A s g->F g) (h:∀r,r<14->nP n (nS A N) N D w r) (hl:N'.lv=N.lv) (hs:N'.s=⟨⟨D.T1.leaf,N.s.x.p,N.s.x.c,N.s.x.k,N.s.x.b⟩,N.s.v⟩) (hv:N'.vv=N.vv) (hn:N'.nv=N.nv) (hm:N'.mv=N.mv) (ho:N'.o=⟨⟨D.T2.leaf,N.o.x.p,N.o.x.c,N.o.x.k,N.o.x.b⟩,N.o.v⟩):Eg (n+1) w F N' D:=by
 have a0:AB w (nS A N 0) _ _ _ _ _:=h 0 (by omega)
 have a6:AB w (nS A N 6) _ _ _ _ _:=h 6 (by omega)
 have a7:AB w (nS A N 7) _ _ _ _ _:=h 7 (by omega)
 have a8:AB w (nS A N 8) _ _ _ _ _:=h 8 (by omega)
 refine⟨A,hA,hF, ?_, ?_, ?_, ?_, ?_, ?_⟩
 ·rw[hl];exact⟨a0.1,fun g hg=>(a0.2 g hg).2.1⟩
 ·refine mP.own (S:=fun q=>nS A N (q+1)) (m:=N.s) (fun q g hq hg=> ?_) (fun g hg e=> ?_) (h 1 (by omega)) (h 2 (by omega)) (h 3 (by omega)) (h 4 (by omega)) (h 5 (by omega)) hs
  ·have:=hg.2.1
   rwa [show cd (q+1)=1 by unfold cd;(repeat' split)<;>omega] at this
  ·have:=hg.2.2.1 (by omega) (by omega)
   simp only[mS,Nat.add_sub_cancel] at this
   rcases e with e|e|e
   ·exact this.1 e
   ·exact this.2.1 e
   ·exact this.2.2.1 e
 ·rw[hv];exact⟨a6.1,fun g hg=>(a6.2 g hg).2.1⟩
 ·rw[hn];exact⟨a7.1,fun g hg=>(a7.2 g hg).2.1⟩
 ·rw[hm];exact⟨a8.1,fun g hg=>(a8.2 g hg).2.1⟩
 ·refine mP.own (S:=fun q=>nS A N (q+9)) (m:=N.o) (fun q g hq hg=> ?_) (fun g hg e=> ?_) (h 9 (by omega)) (h 10 (by omega)) (h 11 (by omega)) (h 12 (by omega)) (h 13 (by omega)) ho
  ·have:=hg.2.1
   rwa [show cd (q+9)=5 by unfold cd;(repeat' split)<;>omega] at this
  ·have:=hg.2.2.2 (by omega)
   simp only[mS,Nat.add_sub_cancel] at this
   rcases e with e|e|e
   ·exact this.1 e
   ·exact this.2.1 e
   ·exact this.2.2.1 e
theorem rP.own {n:Nat} {A:Nat->Nat->Prop} {F:Nat->Prop} {N N' :BP} {D:Rd} {w:World} (hA:∀s t g,A s g->A t g->s=t) (hF:∀s g,A s g->F g) (h:∀r,r<6->rP n (rS A N) N D w r) (hl:N'.ev=N.ev) (hs:N'.s=⟨⟨D.T.leaf,N.s.x.p,N.s.x.c,N.s.x.k,N.s.x.b⟩,N.s.v⟩):Ee (n+1) w F N' D:=by
 have a0:AB w (rS A N 0) _ _ _ _ _:=h 0 (by omega)
 refine⟨A,hA,hF, ?_, ?_⟩
 ·rw[hl];exact⟨a0.1,fun g hg=>(a0.2 g hg).2.1⟩
 ·refine mP.own (S:=fun q=>rS A N (q+1)) (m:=N.s) (fun q g hq hg=> ?_) (fun g hg e=> ?_) (h 1 (by omega)) (h 2 (by omega)) (h 3 (by omega)) (h 4 (by omega)) (h 5 (by omega)) hs
  ·have:=hg.2.1
   rwa [if_neg (by omega)] at this
  ·have:=hg.2.2 (by omega)
   simp only[mS,Nat.add_sub_cancel] at this
   rcases e with e|e|e
   ·exact this.1 e
   ·exact this.2.1 e
   ·exact this.2.2.1 e
end
end Go.Proofs.YtkcaelfkcepdkaaGreat
