/-
  A world in memory of its own, its lists by sets of blocks: so they can grow.
  What is sent: as many as there is room for, behind the net.
  RegLast once more, where the last operation waits for some of the others through one that it waits for.
  withRoom: as many of a list as there is room for.
  The program's send: as many as there is room for stand behind the net.
  The program's Send.
  The model's Send.
  The walk of the law FnExactSend.
-/
import Derived.Test.YtkcaelfkcepdkaaGreatOfNote31
import Derived.Test.YtkcaelfkcepdkaaGreatOfNote39
import Derived.Test.YtkcaelfkcepdkaaGreatOfNote8
import Derived.Test.YtkcaelfkcepdkaaGreatOfNote35
import Derived.Test.YtkcaelfkcepdkaaGreatOfNote32
import Derived.Test.YtkcaelfkcepdkaaGreatOfNote26
import Derived.Test.YtkcaelfkcepdkaaGreatOfNote9
import Derived.Deep.RegionHeld3
namespace Go.Proofs.YtkcaelfkcepdkaaGreat
set_option maxRecDepth 100000
set_option maxHeartbeats 8000000
section
open Go.RowKit

def DU {ε :Type} (R:World->(Nat->Prop)-> ε ->Prop):Prop:=∀(w w' :World) (F P:Nat->Prop) (e: ε),R w F e->Chg P w w' ->(∀g,F g->¬P g)->R w' F e
def De (n:Nat) (w:World) (F:Nat->Prop) (e:BH):Prop:=Eg n w F e.1 e.2
def Dh (n:Nat) (w:World) (F:Nat->Prop) (e:BU):Prop:=Ee n w F e.1 e.2
def Fq (n:Nat) (w:World) (F:Nat->Prop) (e:BH):Prop:=Ey n w F e.1 e.2
def Fj (n:Nat) (w:World) (F:Nat->Prop) (e:BU):Prop:=Fh n w F e.1 e.2
theorem Bo (n:Nat):DU (De n):=fun _ _ _ _ _ h hc hP=>Eg.chg h hc hP
theorem Bp (n:Nat):DU (Dh n):=fun _ _ _ _ _ h hc hP=>Ee.chg h hc hP
theorem DO (n:Nat):DU (Fq n):=fun _ _ _ _ _ h hc hP=>Ey.chg h hc hP
theorem DK (n:Nat):DU (Fj n):=fun _ _ _ _ _ h hc hP=>Fh.chg h hc hP
def LsU {ε :Type} (cs: ε ->List Value) (R:World->(Nat->Prop)-> ε ->Prop) (d: ε) (ty K:Nat) (w:World) (F:Nat->Prop) (v:Value) (es:List ε):Prop:=
 AB w F ty K v es.length (es.map cs).flatten/\∃G:Nat->Nat->Prop,(∀i,i<es.length->R w (G i) (es.getD i d))/\(∀i j g,i<j->j<es.length->G i g->¬G j g)/\∀i g,i<es.length->G i g->F g/\¬wrB v g
section
variable {ε :Type} {cs: ε ->List Value} {R:World->(Nat->Prop)-> ε ->Prop} {d: ε} {ty K:Nat} {w w' :World} {F:Nat->Prop} {v:Value} {es:List ε}
theorem LsU.chg {P:Nat->Prop} (hR:DU R) (h:LsU cs R d ty K w F v es) (hc:Chg P w w') (hP:∀g,F g->¬P g):LsU cs R d ty K w' F v es:=by
 obtain⟨h1,G,h2,h3,h4⟩:=h
 exact⟨h1.chg hc hP,G,fun i hi=>hR _ _ _ _ _ (h2 i hi) hc (fun g hg=>hP g (h4 i g hi hg).1),h3,h4⟩
theorem LsU.mono {F' :Nat->Prop} (h:LsU cs R d ty K w F v es) (hF:∀g,F g->F' g):LsU cs R d ty K w F' v es:=by
 obtain⟨h1,G,h2,h3,h4⟩:=h
 exact⟨h1.mono hF,G,h2,h3,fun i g hi hg=>⟨hF g (h4 i g hi hg).1,(h4 i g hi hg).2⟩⟩
theorem LsU.at {At:World-> ε ->Prop} (hA:∀w F e,R w F e->At w e) (h:LsU cs R d ty K w F v es):Cr cs At w v es:=by
 obtain⟨h1,G,h2,_⟩:=h
 refine⟨h1.1.rowF.row,fun e he=> ?_⟩
 obtain⟨i,hi,rfl⟩:=List.getElem_of_mem he
 have:=h2 i hi
 simp only[List.getD,List.getElem?_eq_getElem hi,Option.getD_some] at this
 exact hA _ _ _ this
theorem LsU.of_I {RI:World->Nat->Nat-> ε ->Prop} {lo hi:Nat} (hRI:∀w a b e,RI w a b e->R w (fun g=>a<=g/\g<b) e) (h:LsI cs RI d ty K w lo hi v es):LsU cs R d ty K w (fun g=>lo<=g/\g<hi) v es:=by
 obtain⟨h1,h2,h3,h4,a,b,h5,h6⟩:=h
 refine⟨⟨h1.mono (Nat.zero_le _),fun g hg=>⟨(h1.lt g hg).1,h2 g hg⟩⟩,fun i g=>a i<=g/\g<b i,fun i hi=>hRI _ _ _ _ (h5 i hi).2.2.2.1,fun i j g hij hj hg hg' =>by have:=h6 i j hij hj;omega,fun i g hi hg=> ?_⟩
 obtain⟨p1,p2,p3,p4,p5⟩:=h5 i hi
 exact⟨⟨by omega,by omega⟩,p5 g hg.1 hg.2⟩
end
def WrS (RN:World->(Nat->Prop)->BH->Prop) (RR:World->(Nat->Prop)->BU->Prop) (w:World) (F:Nat->Prop) (W:WrV) (D:Wd):Prop:=
 ∃A:Nat->Nat->Prop,(∀s t g,A s g->A t g->s=t)/\(∀s g,A s g->F g)/\LsU Ax RN Ap 73 23 w (A 0) W.nv D.ns/\LsU AU RR Av 87 15 w (A 1) W.rv D.rs∧
  AB w (A 2) 117 5 W.cv D.cs.length (D.cs.map AM).flatten/\AB w (A 3) 141 4 W.av D.ds.length (Au D.ds)/\AB w (A 4) 121 2 W.lv D.ls.length (D.ls.map AN).flatten
section
variable {RN:World->(Nat->Prop)->BH->Prop} {RR:World->(Nat->Prop)->BU->Prop} {w w' :World} {F:Nat->Prop} {W:WrV} {D:Wd}
theorem WrS.chg {P:Nat->Prop} (hN:DU RN) (hR:DU RR) (h:WrS RN RR w F W D) (hc:Chg P w w') (hP:∀g,F g->¬P g):WrS RN RR w' F W D:=by
 obtain⟨A,h1,h2,o0,o1,o2,o3,o4⟩:=h
 exact⟨A,h1,h2,LsU.chg hN o0 hc (fun g e=>hP g (h2 _ g e)),LsU.chg hR o1 hc (fun g e=>hP g (h2 _ g e)),o2.chg hc (fun g e=>hP g (h2 _ g e)),o3.chg hc (fun g e=>hP g (h2 _ g e)),o4.chg hc (fun g e=>hP g (h2 _ g e))⟩
theorem WrS.below (hN:DU RN) (hR:DU RR) (h:WrS RN RR w F W D) (hb:Below w.heap.size w w'):WrS RN RR w' F W D:=h.chg hN hR (Chg.of_below (F:=fun _=>False) hb) (fun _ _ e=>e)
theorem WrS.at {n:Nat} (hN:∀w F e,RN w F e->Du n w e) (hR:∀w F e,RR w F e->Dw n w e) (h:WrS RN RR w F W D):CG n w W D:=by
 obtain⟨A,_,_,o0,o1,o2,o3,o4⟩:=h
 exact⟨o0.at hN,o1.at hR,⟨o2.1.rowF.row,fun _ _=>trivial⟩,o3.1.rowF.row,⟨o4.1.rowF.row,fun _ _=>trivial⟩⟩
end
theorem WrI.s {n:Nat} {w:World} {lo hi:Nat} {W:WrV} {D:Wd} (h:WrI n w lo hi W D):WrS (De n) (Dh n) w (fun g=>lo<=g/\g<hi) W D:=by
 obtain⟨a,b,h1,h2,h3,o0,o1,o2,o3,o4⟩:=h
 refine⟨fun s g=>s<5/\a s<=g/\g<b s,fun s t g x y=> ?_,fun s g x=> ?_, ?_, ?_, ?_, ?_, ?_⟩
 ·rcases Nat.decEq s t with e|e
  ·have:=h2 s t x.1 y.1 e;omega
  ·exact e
 ·have:=h1 s x.1;omega
 ·exact(LsU.of_I (R:=De n) (fun _ _ _ _ h=>h) o0).mono (fun g e=>⟨by omega,e⟩)
 ·exact(LsU.of_I (R:=Dh n) (fun _ _ _ _ h=>h) o1).mono (fun g e=>⟨by omega,e⟩)
 ·exact⟨o2.1.mono (Nat.zero_le _),fun g e=>⟨by omega,(o2.1.lt g e).1,o2.2.1 g e⟩⟩
 ·exact⟨o3.1.mono (Nat.zero_le _),fun g e=>⟨by omega,(o3.1.lt g e).1,o3.2 g e⟩⟩
 ·exact⟨o4.1.mono (Nat.zero_le _),fun g e=>⟨by omega,(o4.1.lt g e).1,o4.2.1 g e⟩⟩
theorem WrW.s {n:Nat} {w:World} {lo hi:Nat} {W:WrV} {D:Wd} (h:WrW n w lo hi W D):WrS (Fq n) (Fj n) w (fun g=>lo<=g/\g<hi) W D:=by
 obtain⟨a,b,h1,h2,h3,o0,o1,o2,o3,o4⟩:=h
 refine⟨fun s g=>s<5/\a s<=g/\g<b s,fun s t g x y=> ?_,fun s g x=> ?_, ?_, ?_, ?_, ?_, ?_⟩
 ·rcases Nat.decEq s t with e|e
  ·have:=h2 s t x.1 y.1 e;omega
  ·exact e
 ·have:=h1 s x.1;omega
 ·exact(LsU.of_I (R:=Fq n) (fun _ _ _ _ h=>h) o0).mono (fun g e=>⟨by omega,e⟩)
 ·exact(LsU.of_I (R:=Fj n) (fun _ _ _ _ h=>h) o1).mono (fun g e=>⟨by omega,e⟩)
 ·exact⟨o2.1.mono (Nat.zero_le _),fun g e=>⟨by omega,(o2.1.lt g e).1,o2.2.1 g e⟩⟩
 ·exact⟨o3.1.mono (Nat.zero_le _),fun g e=>⟨by omega,(o3.1.lt g e).1,o3.2 g e⟩⟩
 ·exact⟨o4.1.mono (Nat.zero_le _),fun g e=>⟨by omega,(o4.1.lt g e).1,o4.2.1 g e⟩⟩
theorem Ej (n:Nat):∀w F e,De n w F e->Du n w e:=fun _ _ _ h=>Eg.at h
theorem El (n:Nat):∀w F e,Dh n w F e->Dw n w e:=fun _ _ _ h=>Ee.at h
theorem Hd (n:Nat):∀w F e,Fq n w F e->Du n w e:=fun _ _ _ h=>Ey.at h
theorem Hh (n:Nat):∀w F e,Fj n w F e->Dw n w e:=fun _ _ _ h=>Fh.at h

theorem LsU.markN {n:Nat} {w:World} {F:Nat->Prop} {v:Value} {es:List BH} (h:LsU Ax (De (n+1)) Ap 73 23 w F v es) (k:Int) (hk0:0<=k) (hk1:k+(AC (BK (n+1)) es es.length:Nat)<=67108864) :
  Calls Tryz.prog 41 #[v, .int .i64 k] w fun e w' =>e= .returned (.int .i64 (k+(AC (BK (n+1)) es es.length:Nat)))/\LsU Ax (De (n+1)) Ap 73 23 w' F v (Bu (n+1) k es)/\Chg F w w' :=by
 obtain⟨h1,G,h2,h3,h4⟩:=h
 refine(Ge n v es G k w ⟨h1.1,h2,h3,fun i g hi hg=>(h4 i g hi hg).2⟩ hk0 hk1).mono ?_
 rintro e w' ⟨r, -,q,c⟩
 have hl:(Bu (n+1) k es).length=es.length:=by simp[Bu]
 refine⟨r,⟨⟨q.1,h1.2⟩,G,fun i hi=>q.2.1 i hi,fun i j g hij hj=>h3 i j g hij (by omega),fun i g hi=>h4 i g (by omega)⟩,c.mono (fun g _ hg=> ?_)⟩
 rcases hg with hg|⟨i,hi,hg⟩
 ·exact h1.2 g hg
 ·exact(h4 i g hi hg).1
theorem LsU.markR {n:Nat} {w:World} {F:Nat->Prop} {v:Value} {es:List BU} (h:LsU AU (Dh (n+1)) Av 87 15 w F v es) (k:Int) (hk0:0<=k) (hk1:k+(AC (BL (n+1)) es es.length:Nat)<=67108864) :
  Calls Tryz.prog 14 #[v, .int .i64 k] w fun e w' =>e= .returned (.int .i64 (k+(AC (BL (n+1)) es es.length:Nat)))/\LsU AU (Dh (n+1)) Av 87 15 w' F v (BE (n+1) k es)/\Chg F w w' :=by
 obtain⟨h1,G,h2,h3,h4⟩:=h
 refine(GW n v es G k w ⟨h1.1,h2,h3,fun i g hi hg=>(h4 i g hi hg).2⟩ hk0 hk1).mono ?_
 rintro e w' ⟨r, -,q,c⟩
 have hl:(BE (n+1) k es).length=es.length:=by simp[BE]
 refine⟨r,⟨⟨q.1,h1.2⟩,G,fun i hi=>q.2.1 i hi,fun i j g hij hj=>h3 i j g hij (by omega),fun i g hi=>h4 i g (by omega)⟩,c.mono (fun g _ hg=> ?_)⟩
 rcases hg with hg|⟨i,hi,hg⟩
 ·exact h1.2 g hg
 ·exact(h4 i g hi hg).1
theorem AB.markC {w:World} {F:Nat->Prop} {v:Value} {es:List Ex} (h:AB w F 117 5 v es.length (es.map AM).flatten) (k:Int) (hk0:0<=k) (hk1:k+5*(es.length:Nat)<=67108864) :
  Calls Tryz.prog 42 #[v, .int .i64 k] w fun e w' =>e= .returned (.int .i64 (k+5*(es.length:Nat)))/\AB w' F 117 5 v (Cj k es.length).length ((Cj k es.length).map AM).flatten/\Chg F w w' :=by
 refine(Hg v es k w h.1 hk0 hk1).mono ?_
 rintro e w' ⟨r,q,c⟩
 have hl:(Cj k es.length).length=es.length:=by simp[Cj]
 exact⟨r,⟨by rw[hl];exact q,h.2⟩,c.mono (fun g _ hg=>h.2 g hg)⟩
theorem AB.markL {w:World} {F:Nat->Prop} {v:Value} {es:List Er} (h:AB w F 121 2 v es.length (es.map AN).flatten) (k:Int) (hk0:0<=k) (hk1:k+2*(es.length:Nat)<=67108864) :
  Calls Tryz.prog 44 #[v, .int .i64 k] w fun e w' =>e= .returned (.int .i64 (k+2*(es.length:Nat)))/\AB w' F 121 2 v (Di k es.length).length ((Di k es.length).map AN).flatten/\Chg F w w' :=by
 refine(Gh v es k w h.1 hk0 hk1).mono ?_
 rintro e w' ⟨r,q,c⟩
 have hl:(Di k es.length).length=es.length:=by simp[Di]
 exact⟨r,⟨by rw[hl];exact q,h.2⟩,c.mono (fun g _ hg=>h.2 g hg)⟩
theorem AB.markD {w:World} {F:Nat->Prop} {v:Value} {l:DL} (h:AB w F 141 4 v l.length (Au l)) (k:Int) (hk0:0<=k) (hk1:k+4*(l.length:Nat)<=67108864) :
  Calls Tryz.prog 43 #[v, .int .i64 k] w fun e w' =>e= .returned (.int .i64 (k+4*(l.length:Nat)))/\AB w' F 141 4 v (AG k l.length).length (Au (AG k l.length))/\Chg F w w' :=by
 refine(Ek 0 v l k w h.1 (by omega) hk0 (by omega)).mono ?_
 rintro e w' ⟨r,q,c⟩
 exact⟨r,⟨by rw[A9];exact q,h.2⟩,c.mono (fun g _ hg=>h.2 g hg)⟩

theorem Ln (n:Nat) (W:WrV) (D:Wd) (F:Nat->Prop) (k:Int) (w:World) (h:WrS (De (n+1)) (Dh (n+1)) w F W D) (hF:∀g,F g->g<w.heap.size) (hk0:0<=k) (hk1:wK5 (n+1) k D<=67108864) :
  Calls Tryz.prog 13 #[W.val, .int .i64 k] w fun e w' =>e= .returned (.int .i64 (wK5 (n+1) k D))/\WrS (De (n+1)) (Dh (n+1)) w' F W (wMk (n+1) k D)/\Chg F w w' :=by
 have e1:wK1 (n+1) k D=k+(AC (BK (n+1)) D.ns D.ns.length:Nat):=rfl
 have e2:wK2 (n+1) k D=wK1 (n+1) k D+(AC (BL (n+1)) D.rs D.rs.length:Nat):=rfl
 have e3:wK3 (n+1) k D=wK2 (n+1) k D+5*(D.cs.length:Nat):=rfl
 have e4:wK4 (n+1) k D=wK3 (n+1) k D+4*(D.ds.length:Nat):=rfl
 have e5:wK5 (n+1) k D=wK4 (n+1) k D+2*(D.ls.length:Nat):=rfl
 obtain⟨A,h1,h2,o0,o1,o2,o3,o4⟩:=h
 obtain⟨sz,nv,rv,cv,av,lv⟩:=W
 simp only at o0 o1 o2 o3 o4
 obtain⟨a0,q0,hz⟩:=o0.1.1.slice
 subst hz;obtain⟨a1,q1,hz⟩:=o1.1.1.slice
 subst hz;obtain⟨a2,q2,hz⟩:=o2.1.slice
 subst hz;obtain⟨a3,q3,hz⟩:=o3.1.slice
 subst hz;obtain⟨a4,q4,hz⟩:=o4.1.slice
 subst hz;refine(H2 (k1:=wK1 (n+1) k D) (k2:=wK2 (n+1) k D) (k3:=wK3 (n+1) k D) (k4:=wK4 (n+1) k D) (k5:=wK5 (n+1) k D) (Pm:=F)
  (A0:=fun u=>LsU Ax (De (n+1)) Ap 73 23 u (A 0) (.slice a0 D.ns.length q0) D.ns/\LsU AU (Dh (n+1)) Av 87 15 u (A 1) (.slice a1 D.rs.length q1) D.rs/\AB u (A 2) 117 5 (.slice a2 D.cs.length q2) D.cs.length (D.cs.map AM).flatten/\AB u (A 3) 141 4 (.slice a3 D.ds.length q3) D.ds.length (Au D.ds)/\AB u (A 4) 121 2 (.slice a4 D.ls.length q4) D.ls.length (D.ls.map AN).flatten)
  (A1:=fun u=>LsU Ax (De (n+1)) Ap 73 23 u (A 0) (.slice a0 D.ns.length q0) (Bu (n+1) k D.ns)/\LsU AU (Dh (n+1)) Av 87 15 u (A 1) (.slice a1 D.rs.length q1) D.rs/\AB u (A 2) 117 5 (.slice a2 D.cs.length q2) D.cs.length (D.cs.map AM).flatten/\AB u (A 3) 141 4 (.slice a3 D.ds.length q3) D.ds.length (Au D.ds)/\AB u (A 4) 121 2 (.slice a4 D.ls.length q4) D.ls.length (D.ls.map AN).flatten)
  (A2:=fun u=>LsU Ax (De (n+1)) Ap 73 23 u (A 0) (.slice a0 D.ns.length q0) (Bu (n+1) k D.ns)/\LsU AU (Dh (n+1)) Av 87 15 u (A 1) (.slice a1 D.rs.length q1) (BE (n+1) (wK1 (n+1) k D) D.rs)/\AB u (A 2) 117 5 (.slice a2 D.cs.length q2) D.cs.length (D.cs.map AM).flatten/\AB u (A 3) 141 4 (.slice a3 D.ds.length q3) D.ds.length (Au D.ds)/\AB u (A 4) 121 2 (.slice a4 D.ls.length q4) D.ls.length (D.ls.map AN).flatten)
  (A3:=fun u=>LsU Ax (De (n+1)) Ap 73 23 u (A 0) (.slice a0 D.ns.length q0) (Bu (n+1) k D.ns)/\LsU AU (Dh (n+1)) Av 87 15 u (A 1) (.slice a1 D.rs.length q1) (BE (n+1) (wK1 (n+1) k D) D.rs)/\AB u (A 2) 117 5 (.slice a2 D.cs.length q2) (Cj (wK2 (n+1) k D) D.cs.length).length ((Cj (wK2 (n+1) k D) D.cs.length).map AM).flatten/\AB u (A 3) 141 4 (.slice a3 D.ds.length q3) D.ds.length (Au D.ds)/\AB u (A 4) 121 2 (.slice a4 D.ls.length q4) D.ls.length (D.ls.map AN).flatten)
  (A4:=fun u=>LsU Ax (De (n+1)) Ap 73 23 u (A 0) (.slice a0 D.ns.length q0) (Bu (n+1) k D.ns)/\LsU AU (Dh (n+1)) Av 87 15 u (A 1) (.slice a1 D.rs.length q1) (BE (n+1) (wK1 (n+1) k D) D.rs)/\AB u (A 2) 117 5 (.slice a2 D.cs.length q2) (Cj (wK2 (n+1) k D) D.cs.length).length ((Cj (wK2 (n+1) k D) D.cs.length).map AM).flatten/\AB u (A 3) 141 4 (.slice a3 D.ds.length q3) (AG (wK3 (n+1) k D) D.ds.length).length (Au (AG (wK3 (n+1) k D) D.ds.length))/\AB u (A 4) 121 2 (.slice a4 D.ls.length q4) D.ls.length (D.ls.map AN).flatten)
  (A5:=fun u=>LsU Ax (De (n+1)) Ap 73 23 u (A 0) (.slice a0 D.ns.length q0) (Bu (n+1) k D.ns)/\LsU AU (Dh (n+1)) Av 87 15 u (A 1) (.slice a1 D.rs.length q1) (BE (n+1) (wK1 (n+1) k D) D.rs)/\AB u (A 2) 117 5 (.slice a2 D.cs.length q2) (Cj (wK2 (n+1) k D) D.cs.length).length ((Cj (wK2 (n+1) k D) D.cs.length).map AM).flatten/\AB u (A 3) 141 4 (.slice a3 D.ds.length q3) (AG (wK3 (n+1) k D) D.ds.length).length (Au (AG (wK3 (n+1) k D) D.ds.length))/\AB u (A 4) 121 2 (.slice a4 D.ls.length q4) (Di (wK4 (n+1) k D) D.ls.length).length ((Di (wK4 (n+1) k D) D.ls.length).map AN).flatten)
  w hF (fun u hb=>⟨o0.chg (Bo _) (Chg.of_below (F:=fun _=>False) hb) (fun _ _ e=>e),o1.chg (Bp _) (Chg.of_below (F:=fun _=>False) hb) (fun _ _ e=>e),o2.chg (Chg.of_below (F:=fun _=>False) hb) (fun _ _ e=>e),o3.chg (Chg.of_below (F:=fun _=>False) hb) (fun _ _ e=>e),o4.chg (Chg.of_below (F:=fun _=>False) hb) (fun _ _ e=>e)⟩)
  (fun u ⟨p0,p1,p2,p3,p4⟩=>(p0.markN k hk0 (by omega)).mono (fun e u' ⟨r,q,c⟩=>⟨r,⟨q,p1.chg (Bp _) c (fun g x y=>absurd (h1 1 0 g x y) (by omega)),p2.chg c (fun g x y=>absurd (h1 2 0 g x y) (by omega)),p3.chg c (fun g x y=>absurd (h1 3 0 g x y) (by omega)),p4.chg c (fun g x y=>absurd (h1 4 0 g x y) (by omega))⟩,c.mono (fun g _ hg=>h2 0 g hg)⟩))
  (fun u ⟨p0,p1,p2,p3,p4⟩=>(p1.markR (wK1 (n+1) k D) (by omega) (by omega)).mono (fun e u' ⟨r,q,c⟩=>⟨r,⟨p0.chg (Bo _) c (fun g x y=>absurd (h1 0 1 g x y) (by omega)),q,p2.chg c (fun g x y=>absurd (h1 2 1 g x y) (by omega)),p3.chg c (fun g x y=>absurd (h1 3 1 g x y) (by omega)),p4.chg c (fun g x y=>absurd (h1 4 1 g x y) (by omega))⟩,c.mono (fun g _ hg=>h2 1 g hg)⟩))
  (fun u ⟨p0,p1,p2,p3,p4⟩=>(p2.markC (wK2 (n+1) k D) (by omega) (by omega)).mono (fun e u' ⟨r,q,c⟩=>⟨r,⟨p0.chg (Bo _) c (fun g x y=>absurd (h1 0 2 g x y) (by omega)),p1.chg (Bp _) c (fun g x y=>absurd (h1 1 2 g x y) (by omega)),q,p3.chg c (fun g x y=>absurd (h1 3 2 g x y) (by omega)),p4.chg c (fun g x y=>absurd (h1 4 2 g x y) (by omega))⟩,c.mono (fun g _ hg=>h2 2 g hg)⟩))
  (fun u ⟨p0,p1,p2,p3,p4⟩=>(p3.markD (wK3 (n+1) k D) (by omega) (by omega)).mono (fun e u' ⟨r,q,c⟩=>⟨r,⟨p0.chg (Bo _) c (fun g x y=>absurd (h1 0 3 g x y) (by omega)),p1.chg (Bp _) c (fun g x y=>absurd (h1 1 3 g x y) (by omega)),p2.chg c (fun g x y=>absurd (h1 2 3 g x y) (by omega)),q,p4.chg c (fun g x y=>absurd (h1 4 3 g x y) (by omega))⟩,c.mono (fun g _ hg=>h2 3 g hg)⟩))
  (fun u ⟨p0,p1,p2,p3,p4⟩=>(p4.markL (wK4 (n+1) k D) (by omega) (by omega)).mono (fun e u' ⟨r,q,c⟩=>⟨r,⟨p0.chg (Bo _) c (fun g x y=>absurd (h1 0 4 g x y) (by omega)),p1.chg (Bp _) c (fun g x y=>absurd (h1 1 4 g x y) (by omega)),p2.chg c (fun g x y=>absurd (h1 2 4 g x y) (by omega)),p3.chg c (fun g x y=>absurd (h1 3 4 g x y) (by omega)),q⟩,c.mono (fun g _ hg=>h2 4 g hg)⟩))).mono ?_
 rintro e w' ⟨r,⟨p0,p1,p2,p3,p4⟩,c⟩
 exact⟨r,⟨A,h1,h2,p0,p1,p2,p3,p4⟩,c⟩
end
section
open Go.RowKit

theorem CG.ones6 {n:Nat} {w:World} {sz:Int} {nv rv cv av lv:Value} {D:Wd} (h:CG n w ⟨sz,nv,rv,cv,av,lv⟩ D):([.int .i64 sz,nv,rv,cv,av,lv]:List Value).toArray.all (·.oneCell')=true:=by
 obtain⟨q1,q2,q3,q4,q5⟩:=h
 obtain⟨_,_,e1,_⟩:=q1.len
 obtain⟨_,_,e2,_⟩:=q2.len
 obtain⟨_,_,e3,_⟩:=q3.len
 obtain⟨_,_,_,_,e4,_⟩:=q4
 obtain⟨_,_,e5,_⟩:=q5.len
 simp only at e1 e2 e3 e4 e5
 subst e1 e2 e3 e4 e5;simp[Value.oneCell']
def Wd.sent (D:Wd) (es:List BU):Wd:=⟨D.ns,D.rs++es.take (30-D.rs.length),D.cs,D.ds,D.ls⟩
theorem Dv.refl (e:BH):Dv e e:=⟨⟨rfl,rfl,rfl,rfl,rfl,rfl,rfl⟩,rfl⟩
theorem Dx.refl (e:BU):Dx e e:=⟨⟨rfl,rfl,rfl,rfl,rfl,rfl,rfl,rfl⟩,rfl⟩
theorem Wd.like.rfl (D:Wd):D.like D:=⟨Bs.refl Dv.refl _,Bs.refl Dx.refl _,Eq.refl _,Eq.refl _,Eq.refl _⟩
theorem Wd.like.sm {D E:Wd} (h:D.like E):E.like D:=h.both (Wd.like.rfl D)
end
section
open Go.RowKit

def Od (l:List Oper) (st:Oper):Bool:=
 (List.range l.length).all (fun i=>match l[i]? with
  |some o=>o.guard.isNone&&o.after.toList.all fun e=>decide (e.on<i)
  |none=>false)&&(st.guard.isNone&&((List.range l.length).all (fun i=>st.after.toList.any fun e=>Region.binds .any e&&(decide (e.on=i)||match l[e.on]? with
   |some o=>o.after.toList.any fun e2=>Region.binds .any e2&&decide (e2.on=i)
   |none=>false))&&st.after.toList.all fun e=>decide (e.on<l.length)))

variable {P:Program} {l:List Oper} {st:Oper} {Q:Exit->Act->World->Prop}

theorem LP (h:Od l st=true):(∀(i:Nat) (o:Oper),l[i]? =some o->o.guard=none/\∀e∈o.after,e.on<i)/\st.guard=none/\(∀i,i<l.length->∃e∈st.after,Region.binds .any e=true/\(e.on=i∨∃o,l[e.on]? =some o/\∃e2∈o.after,Region.binds .any e2=true/\e2.on=i))/\∀e∈st.after,e.on<l.length:=by
 simp only[Od,Bool.and_eq_true,List.all_eq_true,List.mem_range,List.any_eq_true,Bool.or_eq_true,decide_eq_true_eq] at h
 obtain⟨h1,h2,h3,h4⟩:=h
 refine⟨fun i o ho=> ?_,by simpa using h2,fun i hi=> ?_,fun e he=>h4 e (by simpa using he)⟩
 ·have:=h1 i (List.getElem?_eq_some_iff.1 ho).1
  rw[ho] at this
  simp only[Bool.and_eq_true,List.all_eq_true,decide_eq_true_eq] at this
  exact⟨by simpa using this.1,fun e he=>this.2 e (by simpa using he)⟩
 ·obtain⟨e,he,hb,hon⟩:=h3 i hi
  refine⟨e,by simpa using he,hb, ?_⟩
  rcases hon with hon|hon
  ·exact .inl hon
  ·rcases ho:l[e.on]? with _|o
   ·rw[ho] at hon;cases hon
   ·rw[ho] at hon
    simp only[List.any_eq_true,Bool.and_eq_true,decide_eq_true_eq] at hon
    obtain⟨e2,he2,hb2,hon2⟩:=hon
    exact .inr ⟨o,rfl,e2,by simpa using he2,hb2,hon2⟩
def Iq (l:List Oper) (listed:Array Bool):Prop:=∀(j:Nat) (o:Oper),l[j]? =some o->listed.getD j false=true->∀e∈o.after,Region.binds .any e=true->listed.getD e.on false=true
theorem Iq.start (l:List Oper):Iq l (Array.replicate l.length false):=fun j o ho hj=>by
 have:=(List.getElem?_eq_some_iff.1 ho).1
 simp[this] at hj
theorem Lb {listed:Array Bool} {i k:Nat} (hi:i<listed.size) (h:listed.getD k false=true):(listed.setIfInBounds i true).getD k false=true:=by
 by_cases hk:k=i
 ·subst hk;simp[hi]
 ·rw[getD_set_ne false (Ne.symm hk)];exact h
theorem Iq.step {listed:Array Bool} (h:Iq l listed) (hs:listed.size=l.length) {i:Nat} (hi:i<l.length) (hm:i∈Region.ready .any l.toArray listed):Iq l (listed.setIfInBounds i true):=fun j o ho hj e he hb=>by
 refine Lb (by omega) ?_
 by_cases hji:j=i
 ·subst hji;obtain⟨_,o2,ho2,hx⟩:=mem_ready.1 hm
  have:o2=o:=by
   have e2:l[j]? =some o2:=by simpa using ho2
   rw[ho] at e2
   exact(Option.some.inj e2).symm
  subst this;exact hx e he hb
 ·rw[getD_set_ne false (Ne.symm hji)] at hj
  exact h j o ho hj e he hb
theorem HO (p1:∀(i:Nat) (o:Oper),l[i]? =some o->o.guard=none/\∀e∈o.after,e.on<i) {listed:Array Bool} (hs:listed.size=l.length) {i:Nat} (hi:i<l.length) (hm:i∈Region.ready .any (l++[st]).toArray (listed.push false)):i∈Region.ready .any l.toArray listed:=by
 rw[mem_ready] at *
 obtain⟨h0,o,ho,hall⟩:=hm
 rw[Bi true (by omega)] at h0
 have ho' :l[i]? =some o:=by
  rw[List.getElem?_toArray,List.getElem?_append_left hi] at ho
  exact ho
 refine⟨h0,o,by simpa using ho',fun e he hb=> ?_⟩
 have:=hall e he hb
 rw[Bi false (by have:=(p1 i o ho').2 e he;omega)] at this
 exact this

theorem LH (h:Od l st=true):∀(fuel:Nat) (listed:Array Bool) (a:Act) (w:World),listed.size=l.length->Iq l listed->wpAny P .any l.toArray (JA P st Q) fuel listed a w->wpAny P .any (l++[st]).toArray Q (fuel+1) (listed.push false) a w:=by
 obtain⟨p1,p2,p3,p4⟩:=LP h
 intro fuel;induction fuel with
 |zero=>
  intro listed a w hs hc hw;have hall:=Fb p1 hs hw.1
  refine⟨fun h0=> ?_,fun i hi=> ?_⟩
  ·exfalso
   have hm:l.length∈Region.ready .any (l++[st]).toArray (listed.push false):=by
    rw[mem_ready]
    refine⟨by simp[←hs],st,by simp,fun e he _=> ?_⟩
    rw[Bi false (by have:=p4 e he;omega)]
    exact hall _ (p4 e he)
   rw[h0] at hm
   cases hm
  ·by_cases hil:i<l.length
   ·have:=HO p1 hs hil hi
    rw[hw.1] at this
    cases this
   ·have hin:i=l.length:=by
     obtain⟨_,o,ho,_⟩:=mem_ready.1 hi
     have:=(Array.getElem?_eq_some_iff.1 ho).1
     simp at this
     omega
    subst hin;have hq:st.wp P a w (Q .normal) Q:=hw.2
    unfold wpOp;have hst:(l++[st]).toArray[l.length]? =some st:=by simp
    simp only[hst]
    rw[if_pos (by simp[Region.wanted,p2])]
    refine .inl (Oper.wp_mono (fun a' w' hq' => ?_) hq)
    refine⟨List.filter_eq_nil_iff.2 fun j hj=> ?_,hq'⟩
    have hj' :j<l.length+1:=by simpa using hj
    have:((listed.push false).setIfInBounds l.length true).getD j true=true:=by
     by_cases hjl:j=l.length
     ·subst hjl;simp
     ·rw[getD_set_ne true (Ne.symm hjl),Bi true (by omega)]
      have:=hall j (by omega)
      have hlt:j<listed.size:=by omega
      simp[hlt] at this ⊢
      exact this
    rw[this]
    simp
 |succ fuel ih=>
  intro listed a w hs hc hw;refine⟨fun h0=> ?_,fun i hi=> ?_⟩
  ·exfalso
   have hr:Region.ready .any l.toArray listed=[]:=by
    rw[List.eq_nil_iff_forall_not_mem]
    intro i hi;have hil:i<l.length:=by
     obtain⟨_,o,ho,_⟩:=mem_ready.1 hi
     have:=(Array.getElem?_eq_some_iff.1 ho).1
     simpa using this
    have hm:i∈Region.ready .any (l++[st]).toArray (listed.push false):=by
     rw[mem_ready] at *
     obtain⟨h1,o,ho,hall⟩:=hi
     have ho' :l[i]? =some o:=by simpa using ho
     refine⟨by rw[Bi true (by omega)];exact h1,o,by rw[List.getElem?_toArray,List.getElem?_append_left hil];exact ho',fun e he hb=> ?_⟩
     rw[Bi false (by have:=(p1 i o ho').2 e he;omega)]
     exact hall e he hb
    rw[h0] at hm
    cases hm
   have hall:=Fb p1 hs hr
   have hm:l.length∈Region.ready .any (l++[st]).toArray (listed.push false):=by
    rw[mem_ready]
    refine⟨by simp[←hs],st,by simp,fun e he _=> ?_⟩
    rw[Bi false (by have:=p4 e he;omega)]
    exact hall _ (p4 e he)
   rw[h0] at hm
   cases hm
  ·by_cases hil:i<l.length
   ·have hm:=HO p1 hs hil hi
    have h1:=hw.2 i hm
    have ho:l.toArray[i]? =some l[i]:=by simp[hil]
    have ho' :(l++[st]).toArray[i]? =some l[i]:=by rw[List.getElem?_toArray,List.getElem?_append_left hil];simp[hil]
    have h2:=Jv ho ho' (p1 i l[i] (by simp[hil])).1 h1
    refine wpOp_mono (fun a' w' h3=> ?_) h2
    rw[LZ (by omega)]
    exact ih _ a' w' (by simpa using hs) (hc.step hs hil hm) h3
   ·have hin:i=l.length:=by
     obtain⟨_,o,ho,_⟩:=mem_ready.1 hi
     have:=(Array.getElem?_eq_some_iff.1 ho).1
     simp at this
     omega
    subst hin;have hall:∀j,j<l.length->listed.getD j false=true:=by
     intro j hj;obtain⟨e,he,hb,hon⟩:=p3 j hj
     obtain⟨_,o,ho,hx⟩:=mem_ready.1 hi
     have:o=st:=by simpa using ho.symm
     subst this;have:=hx e he hb
     rw[Bi false (by have:=p4 e he;omega)] at this
     rcases hon with hon|⟨o2,h2,e2,he2,hb2,hon⟩
     ·rw[hon] at this;exact this
     ·rw[←hon];exact hc e.on o2 h2 this e2 he2 hb2
    have hr:Region.ready .any l.toArray listed=[]:=by
     rw[List.eq_nil_iff_forall_not_mem]
     intro j hj;obtain⟨h1,o,ho,_⟩:=mem_ready.1 hj
     have hjl:j<l.length:=by
      have:=(Array.getElem?_eq_some_iff.1 ho).1
      simpa using this
     have:=hall j hjl
     have hlt:j<listed.size:=by omega
     simp[hlt] at this h1
     rw[h1] at this
     cases this
    have hq:st.wp P a w (Q .normal) Q:=hw.1 hr
    unfold wpOp;have hst:(l++[st]).toArray[l.length]? =some st:=by simp
    simp only[hst]
    rw[if_pos (by simp[Region.wanted,p2])]
    refine .inl (Oper.wp_mono (fun a' w' hq' => ?_) hq)
    refine wpAny_done (List.filter_eq_nil_iff.2 fun j hj=> ?_) hq' _
    have hj' :j<l.length+1:=by simpa using hj
    have:((listed.push false).setIfInBounds l.length true).getD j true=true:=by
     by_cases hjl:j=l.length
     ·subst hjl;simp[hs]
     ·rw[getD_set_ne true (Ne.symm hjl),Bi true (by omega)]
      have:=hall j (by omega)
      have hlt:j<listed.size:=by omega
      simp[hlt] at this ⊢
      exact this
    rw[this]
    simp

theorem BA {id:Nat} {ops:Array Oper} {a:Act} {w:World} (S:World->Prop) (l:List Oper) (st:Oper) (hops:ops=(l++[st]).toArray) (hm:P.follows .mixedOrders=true) (h:Od l st=true)
  (H:wpAnyH P .any l.toArray (JA P st Q) S l.length (Array.replicate l.length false) a w.drew):(Code.region id ops true).wp P Q a w:=by
 subst hops;refine wp_region_any hm ?_
 have h1:=LH (Q:=Q) h l.length (Array.replicate l.length false) a w.drew (by simp) (Iq.start l) (wpAny_of_held _ _ _ _ H)
 have e:(Array.replicate l.length false).push false=Array.replicate (l++[st]).toArray.size false:=by
  apply Array.ext'
  simp[←List.replicate_succ']
 rw[e] at h1
 have e2:(l++[st]).toArray.size=l.length+1:=by simp
 rw[e2] at h1 ⊢
 exact h1
end
section
open Go.RowKit

def Fs (k:Nat) (h m:Int):Nat:=if m<=h then 0 else (min (k:Int) (m-h)).toNat
def CQ (a:Option Addr) (k cap:Nat) (h m:Int):Value:= .slice (if m<=h then none else a) (Fs k h m) (if m<=h then 0 else cap)
end
section
open Go.RowKit
end
section
open Go.RowKit

theorem WrSU.at {n:Nat} {w:World} {F:Nat->Prop} {W:WrV} {D:Wd} (h:WrS (De n) (Dh n) w F W D):CG n w W D:=WrS.at (Ej n) (El n) h
end
section
open Go.RowKit
end
section
open Go.RowKit

theorem AD {P:Program} {ops:Array Oper} {rest:List Oper} {op:Oper} {a:Act} {w:World} {Q:Exit->Act->World->Prop} (hw:Region.wanted op (yielded ops a.tmps)=true) (ty:TypeId) (x:Operand) (ho:op.op= .load ty x)
  (b o:Nat) (hx:a.eval x= .pointer (some ⟨b,o,none⟩)) (cs:List Value) (d:TypeDesc) (hc:w.rangeAt b o cs)
  (hu:P.underlying ty=some d) (hd:d.isRow=true) (hi:(P.info? ty).map (·.size)=some cs.length)
  (h:wpList P ops Q rest (a.put op.dst (.agg cs.toArray)) w):wpList P ops Q (op::rest) a w:=
 wpList_step fun _ hK=>by rw[if_pos hw];exact wp_load_mid ty x ho b o hx cs d hc hu hd hi (hK _ _ h)
theorem Kd {w:World} {t:TypeId} {A:Array Value} {vs:List Value} (hn:A.size=vs.length):Below w.heap.size w ((w.alloc (.cells A t)).setCells w.heap.size 0 vs)/\((w.alloc (.cells A t)).setCells w.heap.size 0 vs).heap[w.heap.size]? =some (.cells vs.toArray t (0,0)):=
 ⟨(Ae w _).trans ((Chg.setCells (F:=fun g=>g=w.heap.size) (g:=w.heap.size) (fun _=>rfl) vs 0 _ (Chg.refl _ _)).below (fun g _ hg=>by omega) (Ae w _).size),A7 (heap_alloc_new w _) vs hn⟩
theorem CG.cells6 {n:Nat} {w:World} {W:WrV} {D:Wd} (h:CG n w W D):∃cs:List Value,W.val= .agg cs.toArray/\cs.length=6/\cs.toArray.all (·.oneCell')=true:=by
 obtain⟨sz,nv,rv,cv,av,lv⟩:=W
 exact⟨_,rfl,rfl,h.ones6⟩
theorem Cy {ε :Type} (f: ε ->Nat) (es:List ε):AC f es es.length=(es.map f).sum:=by unfold AC;rw[List.take_length]
theorem Ko {ε :Type} (f g: ε ->Nat) (h:∀e,f e<=9+6*g e):∀es:List ε,(es.map f).sum<=9*es.length+6*(es.map g).sum
 |[]=>by simp
 |e::es=>by
  have a:=h e
  have b:=Ko f g h es
  simp only[List.map_cons,List.sum_cons,List.length_cons]
  omega
theorem RQ (n:Nat) (e:BH):BK n e<=9+6*GD n e:=by
 have a:=Hm n e.2.T1
 have b:=Hm n e.2.T2
 unfold BK GD Nd.all
 omega
theorem Ri (n:Nat) (e:BU):BL n e<=9+6*GL n e:=by
 have a:=Hm n e.2.T
 unfold BL GL Rd.all
 omega
theorem Bs.mapEq {ε β :Type} {lk: ε -> ε ->Prop} {f: ε -> β} (hf:∀e e',lk e e' ->f e=f e') {a b:List ε} (h:Bs lk a b):a.map f=b.map f:=
 List.ext_getElem (by simp[h.1]) (fun i h1 h2=>by simp only[List.length_map] at h1 h2;rw[List.getElem_map,List.getElem_map];exact hf _ _ (h.2 i h1 h2))
theorem Rn (n:Nat) (e e' :BH) (h:Dv e e'):BK n e=BK n e' :=by unfold BK;rw[h.2]
theorem Rs (n:Nat) (e e' :BU) (h:Dx e e'):BL n e=BL n e' :=by unfold BL;rw[h.2]
theorem MU (n:Nat) (D:Wd):wK5 n 1 D<=1+9*(D.tot n:Nat):=by
 have a:=Ko _ _ (RQ n) D.ns
 have b:=Ko _ _ (Ri n) D.rs
 unfold wK5 wK4 wK3 wK2 wK1 Wd.tot
 rw[Cy,Cy,Cy,Cy]
 omega
theorem Qr (n:Nat) (k:Int) {D E:Wd} (h:D.like E):wK5 n k D=wK5 n k E:=by
 unfold wK5 wK4 wK3 wK2 wK1;rw[Cy,Cy,Cy,Cy,h.n.mapEq (Rn n),h.r.mapEq (Rs n),h.c,h.d,h.l]
def GF (W:WrV) (D:Wd) (V:WrV) (E:Wd):Prop:=W.sz=V.sz/\D.like E
def UM (n:Nat) (D:Wd) (es:List BU):Prop:=D.small n/\(∀e∈es,e.2.small n)/\D.tot n+es.length+(es.map (GL n)).sum<=1048576
theorem Oe (n:Nat) (D:Wd):0<=wK5 n 1 D:=by unfold wK5 wK4 wK3 wK2 wK1;omega
theorem Rm (args:Array Value) (w:World):(callFunc 8 args).run Tryz.prog w= .ok (.enter 8 args) w:=by go_simp
theorem RE (args:Array Value) (w:World):(callFunc 11 args).run Tryz.prog w= .ok (.enter 11 args) w:=by go_simp
end
end Go.Proofs.YtkcaelfkcepdkaaGreat
