/-
  Marks of a world in memory of its own.
  A region that draws its order, op by op: what each one does where those that it waits for are done, in whatever later world; all together have done it.
-/
import Derived.Test.YtkcaelfkcepdkaaGreatOfNote29
import Derived.Test.YtkcaelfkcepdkaaGreatOfNote30
import Derived.Test.YtkcaelfkcepdkaaGreatOfNote8
import Derived.Deep.RegionHeld
namespace Go.Proofs.YtkcaelfkcepdkaaGreat
set_option maxRecDepth 100000
set_option maxHeartbeats 8000000
section
open Go.RowKit

theorem Ac.raise {w:World} {lo e size n:Nat} {v:Value} {xs:List Value} (h:Ac w 0 e size v n xs) (hv:∀g,wrB v g->lo<=g):Ac w lo e size v n xs:=by
 rcases h with h|h
 ·obtain⟨hl,h|⟨g,cap,cur,rfl,hg,hh,hn,hcap,hsz,htake⟩⟩:=h
  ·exact .inl ⟨hl, .inl h⟩
  ·rcases Nat.eq_zero_or_pos cap with h1|h1
   ·subst h1;have:n=0:=by omega
    subst this;exact .inr ⟨rfl,List.length_eq_zero_iff.1 (by omega),g,rfl⟩
   ·exact .inl ⟨hl, .inr ⟨g,cap,cur,rfl,hv g ⟨n,cap,rfl,h1⟩,hh,hn,hcap,hsz,htake⟩⟩
 ·exact .inr h
theorem LsI.markN {n:Nat} {w:World} {lo hi:Nat} {v:Value} {es:List BH} (h:LsI Ax (Fi (n+1)) Ap 73 23 w lo hi v es) (k:Int) (hk0:0<=k) (hk1:k+(AC (BK (n+1)) es es.length:Nat)<=67108864) :
  Calls Tryz.prog 41 #[v, .int .i64 k] w fun e w' =>e= .returned (.int .i64 (k+(AC (BK (n+1)) es es.length:Nat)))/\LsI Ax (Fi (n+1)) Ap 73 23 w' lo hi v (Bu (n+1) k es)/\Chg (fun g=>lo<=g/\g<hi) w w' :=by
 obtain⟨h1,h2,h3,h4,a,b,h5,h6⟩:=h
 refine(Ge n v es (fun i g=>a i<=g/\g<b i) k w ⟨h1.mono (Nat.zero_le _),fun i hi=>(h5 i hi).2.2.2.1,fun i j g hij hj hg hg' =>by have:=h6 i j hij hj;omega,fun i g hi hg=>(h5 i hi).2.2.2.2 g hg.1 hg.2⟩ hk0 hk1).mono ?_
 rintro e w' ⟨r, -,q,c⟩
 have hl:(Bu (n+1) k es).length=es.length:=by simp[Bu]
 refine⟨r,⟨q.1.raise (fun g hg=>(h1.lt g hg).1),h2,h3,Nat.le_trans h4 c.size,a,b,fun i hi=> ?_,fun i j hij hj=>h6 i j hij (by omega)⟩,c.mono (fun g _ hg=> ?_)⟩
 ·obtain⟨p1,p2,p3,_,p5⟩:=h5 i (by omega)
  exact⟨p1,p2,p3,q.2.1 i hi,p5⟩
 ·rcases hg with hg|⟨i,hi,hg⟩
  ·exact⟨(h1.lt g hg).1,h2 g hg⟩
  ·have:=h5 i hi;omega
theorem LsI.markR {n:Nat} {w:World} {lo hi:Nat} {v:Value} {es:List BU} (h:LsI AU (FQ (n+1)) Av 87 15 w lo hi v es) (k:Int) (hk0:0<=k) (hk1:k+(AC (BL (n+1)) es es.length:Nat)<=67108864) :
  Calls Tryz.prog 14 #[v, .int .i64 k] w fun e w' =>e= .returned (.int .i64 (k+(AC (BL (n+1)) es es.length:Nat)))/\LsI AU (FQ (n+1)) Av 87 15 w' lo hi v (BE (n+1) k es)/\Chg (fun g=>lo<=g/\g<hi) w w' :=by
 obtain⟨h1,h2,h3,h4,a,b,h5,h6⟩:=h
 refine(GW n v es (fun i g=>a i<=g/\g<b i) k w ⟨h1.mono (Nat.zero_le _),fun i hi=>(h5 i hi).2.2.2.1,fun i j g hij hj hg hg' =>by have:=h6 i j hij hj;omega,fun i g hi hg=>(h5 i hi).2.2.2.2 g hg.1 hg.2⟩ hk0 hk1).mono ?_
 rintro e w' ⟨r, -,q,c⟩
 have hl:(BE (n+1) k es).length=es.length:=by simp[BE]
 refine⟨r,⟨q.1.raise (fun g hg=>(h1.lt g hg).1),h2,h3,Nat.le_trans h4 c.size,a,b,fun i hi=> ?_,fun i j hij hj=>h6 i j hij (by omega)⟩,c.mono (fun g _ hg=> ?_)⟩
 ·obtain⟨p1,p2,p3,_,p5⟩:=h5 i (by omega)
  exact⟨p1,p2,p3,q.2.1 i hi,p5⟩
 ·rcases hg with hg|⟨i,hi,hg⟩
  ·exact⟨(h1.lt g hg).1,h2 g hg⟩
  ·have:=h5 i hi;omega
theorem LsI.markC {w:World} {lo hi:Nat} {v:Value} {es:List Ex} (h:LsI AM noI CU 117 5 w lo hi v es) (k:Int) (hk0:0<=k) (hk1:k+5*(es.length:Nat)<=67108864) :
  Calls Tryz.prog 42 #[v, .int .i64 k] w fun e w' =>e= .returned (.int .i64 (k+5*(es.length:Nat)))/\LsI AM noI CU 117 5 w' lo hi v (Cj k es.length)/\Chg (fun g=>lo<=g/\g<hi) w w' :=by
 obtain⟨h1,h2,h3,h4,a,b,h5,h6⟩:=h
 refine(Hg v es k w (h1.mono (Nat.zero_le _)) hk0 hk1).mono ?_
 rintro e w' ⟨r,q,c⟩
 have hl:(Cj k es.length).length=es.length:=by simp[Cj]
 refine⟨r,⟨by rw[hl];exact q.raise (fun g hg=>(h1.lt g hg).1),h2,h3,Nat.le_trans h4 c.size,a,b,fun i hi=> ?_,fun i j hij hj=>h6 i j hij (by omega)⟩,c.mono (fun g _ hg=>⟨(h1.lt g hg).1,h2 g hg⟩)⟩
 obtain⟨p1,p2,p3,_,p5⟩:=h5 i (by omega)
 exact⟨p1,p2,p3,trivial,p5⟩
theorem LsI.markL {w:World} {lo hi:Nat} {v:Value} {es:List Er} (h:LsI AN noI Cc 121 2 w lo hi v es) (k:Int) (hk0:0<=k) (hk1:k+2*(es.length:Nat)<=67108864) :
  Calls Tryz.prog 44 #[v, .int .i64 k] w fun e w' =>e= .returned (.int .i64 (k+2*(es.length:Nat)))/\LsI AN noI Cc 121 2 w' lo hi v (Di k es.length)/\Chg (fun g=>lo<=g/\g<hi) w w' :=by
 obtain⟨h1,h2,h3,h4,a,b,h5,h6⟩:=h
 refine(Gh v es k w (h1.mono (Nat.zero_le _)) hk0 hk1).mono ?_
 rintro e w' ⟨r,q,c⟩
 have hl:(Di k es.length).length=es.length:=by simp[Di]
 refine⟨r,⟨by rw[hl];exact q.raise (fun g hg=>(h1.lt g hg).1),h2,h3,Nat.le_trans h4 c.size,a,b,fun i hi=> ?_,fun i j hij hj=>h6 i j hij (by omega)⟩,c.mono (fun g _ hg=>⟨(h1.lt g hg).1,h2 g hg⟩)⟩
 obtain⟨p1,p2,p3,_,p5⟩:=h5 i (by omega)
 exact⟨p1,p2,p3,trivial,p5⟩
theorem Ar.markD {w:World} {lo hi:Nat} {v:Value} {l:DL} (h:Ar w lo hi 141 4 v l.length (Au l)) (k:Int) (hk0:0<=k) (hk1:k+4*(l.length:Nat)<=67108864) :
  Calls Tryz.prog 43 #[v, .int .i64 k] w fun e w' =>e= .returned (.int .i64 (k+4*(l.length:Nat)))/\Ar w' lo hi 141 4 v (AG k l.length).length (Au (AG k l.length))/\Chg (fun g=>lo<=g/\g<hi) w w' :=by
 refine(Ek lo v l k w h.1 (by omega) hk0 (by omega)).mono ?_
 rintro e w' ⟨r,q,c⟩
 exact⟨r,⟨by rw[A9];exact q,h.2⟩,c.mono (fun g _ hg=>⟨(h.1.lt g hg).1,h.2 g hg⟩)⟩

def wK1 (n:Nat) (k:Int) (D:Wd):Int:=k+(AC (BK n) D.ns D.ns.length:Nat)
def wK2 (n:Nat) (k:Int) (D:Wd):Int:=wK1 n k D+(AC (BL n) D.rs D.rs.length:Nat)
def wK3 (n:Nat) (k:Int) (D:Wd):Int:=wK2 n k D+5*(D.cs.length:Nat)
def wK4 (n:Nat) (k:Int) (D:Wd):Int:=wK3 n k D+4*(D.ds.length:Nat)
def wK5 (n:Nat) (k:Int) (D:Wd):Int:=wK4 n k D+2*(D.ls.length:Nat)
def wMk (n:Nat) (k:Int) (D:Wd):Wd:=⟨Bu n k D.ns,BE n (wK1 n k D) D.rs,Cj (wK2 n k D) D.cs.length,AG (wK3 n k D) D.ds.length,Di (wK4 n k D) D.ls.length⟩

theorem Md (n:Nat) (W:WrV) (D:Wd) (lo hi:Nat) (k:Int) (w:World) (h:WrI (n+1) w lo hi W D) (hk0:0<=k) (hk1:wK5 (n+1) k D<=67108864) :
  Calls Tryz.prog 13 #[W.val, .int .i64 k] w fun e w' =>e= .returned (.int .i64 (wK5 (n+1) k D))/\WrI (n+1) w' lo hi W (wMk (n+1) k D)/\Chg (fun g=>lo<=g/\g<hi) w w' :=by
 have e1:wK1 (n+1) k D=k+(AC (BK (n+1)) D.ns D.ns.length:Nat):=rfl
 have e2:wK2 (n+1) k D=wK1 (n+1) k D+(AC (BL (n+1)) D.rs D.rs.length:Nat):=rfl
 have e3:wK3 (n+1) k D=wK2 (n+1) k D+5*(D.cs.length:Nat):=rfl
 have e4:wK4 (n+1) k D=wK3 (n+1) k D+4*(D.ds.length:Nat):=rfl
 have e5:wK5 (n+1) k D=wK4 (n+1) k D+2*(D.ls.length:Nat):=rfl
 obtain⟨a,b,h1,h2,h3,o0,o1,o2,o3,o4⟩:=h
 obtain⟨sz,nv,rv,cv,av,lv⟩:=W
 simp only at o0 o1 o2 o3 o4
 obtain⟨a0,q0,hz⟩:=o0.1.slice
 subst hz;obtain⟨a1,q1,hz⟩:=o1.1.slice
 subst hz;obtain⟨a2,q2,hz⟩:=o2.1.slice
 subst hz;obtain⟨a3,q3,hz⟩:=o3.1.slice
 subst hz;obtain⟨a4,q4,hz⟩:=o4.1.slice
 subst hz;have hh:∀i,i<5->∀g,a i<=g->g<b i->lo<=g/\g<hi:=fun i hi g g1 g2=>by have:=h1 i hi;omega
 have ap:∀i j,i<5->j<5->i≠j->∀g,a i<=g->g<b i->¬(a j<=g/\g<b j):=fun i j hi hj hij g g1 g2 e=>by have:=h2 i j hi hj hij;omega
 refine(H2 (k1:=wK1 (n+1) k D) (k2:=wK2 (n+1) k D) (k3:=wK3 (n+1) k D) (k4:=wK4 (n+1) k D) (k5:=wK5 (n+1) k D) (Pm:=fun g=>lo<=g/\g<hi)
  (A0:=fun u=>LsI Ax (Fi (n+1)) Ap 73 23 u (a 0) (b 0) (.slice a0 D.ns.length q0) D.ns/\LsI AU (FQ (n+1)) Av 87 15 u (a 1) (b 1) (.slice a1 D.rs.length q1) D.rs/\LsI AM noI CU 117 5 u (a 2) (b 2) (.slice a2 D.cs.length q2) D.cs/\Ar u (a 3) (b 3) 141 4 (.slice a3 D.ds.length q3) D.ds.length (Au D.ds)/\LsI AN noI Cc 121 2 u (a 4) (b 4) (.slice a4 D.ls.length q4) D.ls)
  (A1:=fun u=>LsI Ax (Fi (n+1)) Ap 73 23 u (a 0) (b 0) (.slice a0 D.ns.length q0) (Bu (n+1) k D.ns)/\LsI AU (FQ (n+1)) Av 87 15 u (a 1) (b 1) (.slice a1 D.rs.length q1) D.rs/\LsI AM noI CU 117 5 u (a 2) (b 2) (.slice a2 D.cs.length q2) D.cs/\Ar u (a 3) (b 3) 141 4 (.slice a3 D.ds.length q3) D.ds.length (Au D.ds)/\LsI AN noI Cc 121 2 u (a 4) (b 4) (.slice a4 D.ls.length q4) D.ls)
  (A2:=fun u=>LsI Ax (Fi (n+1)) Ap 73 23 u (a 0) (b 0) (.slice a0 D.ns.length q0) (Bu (n+1) k D.ns)/\LsI AU (FQ (n+1)) Av 87 15 u (a 1) (b 1) (.slice a1 D.rs.length q1) (BE (n+1) (wK1 (n+1) k D) D.rs)/\LsI AM noI CU 117 5 u (a 2) (b 2) (.slice a2 D.cs.length q2) D.cs/\Ar u (a 3) (b 3) 141 4 (.slice a3 D.ds.length q3) D.ds.length (Au D.ds)/\LsI AN noI Cc 121 2 u (a 4) (b 4) (.slice a4 D.ls.length q4) D.ls)
  (A3:=fun u=>LsI Ax (Fi (n+1)) Ap 73 23 u (a 0) (b 0) (.slice a0 D.ns.length q0) (Bu (n+1) k D.ns)/\LsI AU (FQ (n+1)) Av 87 15 u (a 1) (b 1) (.slice a1 D.rs.length q1) (BE (n+1) (wK1 (n+1) k D) D.rs)/\LsI AM noI CU 117 5 u (a 2) (b 2) (.slice a2 D.cs.length q2) (Cj (wK2 (n+1) k D) D.cs.length)/\Ar u (a 3) (b 3) 141 4 (.slice a3 D.ds.length q3) D.ds.length (Au D.ds)/\LsI AN noI Cc 121 2 u (a 4) (b 4) (.slice a4 D.ls.length q4) D.ls)
  (A4:=fun u=>LsI Ax (Fi (n+1)) Ap 73 23 u (a 0) (b 0) (.slice a0 D.ns.length q0) (Bu (n+1) k D.ns)/\LsI AU (FQ (n+1)) Av 87 15 u (a 1) (b 1) (.slice a1 D.rs.length q1) (BE (n+1) (wK1 (n+1) k D) D.rs)/\LsI AM noI CU 117 5 u (a 2) (b 2) (.slice a2 D.cs.length q2) (Cj (wK2 (n+1) k D) D.cs.length)/\Ar u (a 3) (b 3) 141 4 (.slice a3 D.ds.length q3) (AG (wK3 (n+1) k D) D.ds.length).length (Au (AG (wK3 (n+1) k D) D.ds.length))/\LsI AN noI Cc 121 2 u (a 4) (b 4) (.slice a4 D.ls.length q4) D.ls)
  (A5:=fun u=>LsI Ax (Fi (n+1)) Ap 73 23 u (a 0) (b 0) (.slice a0 D.ns.length q0) (Bu (n+1) k D.ns)/\LsI AU (FQ (n+1)) Av 87 15 u (a 1) (b 1) (.slice a1 D.rs.length q1) (BE (n+1) (wK1 (n+1) k D) D.rs)/\LsI AM noI CU 117 5 u (a 2) (b 2) (.slice a2 D.cs.length q2) (Cj (wK2 (n+1) k D) D.cs.length)/\Ar u (a 3) (b 3) 141 4 (.slice a3 D.ds.length q3) (AG (wK3 (n+1) k D) D.ds.length).length (Au (AG (wK3 (n+1) k D) D.ds.length))/\LsI AN noI Cc 121 2 u (a 4) (b 4) (.slice a4 D.ls.length q4) (Di (wK4 (n+1) k D) D.ls.length))
  w (fun g hg=>by omega) (fun u hb=>⟨o0.below (BC _) hb,o1.below (Ce _) hb,o2.below Dj hb,o3.below hb,o4.below Dj hb⟩)
  (fun u ⟨p0,p1,p2,p3,p4⟩=>(p0.markN k hk0 (by omega)).mono (fun e u' ⟨r,q,c⟩=>⟨r,⟨q,LsI.chg (Ce _) p1 c (fun g g1 g2 e=>ap 1 0 (by omega) (by omega) (by omega) g g1 g2 e),LsI.chg Dj p2 c (fun g g1 g2 e=>ap 2 0 (by omega) (by omega) (by omega) g g1 g2 e),p3.chg c (fun g g1 g2 e=>ap 3 0 (by omega) (by omega) (by omega) g g1 g2 e),LsI.chg Dj p4 c (fun g g1 g2 e=>ap 4 0 (by omega) (by omega) (by omega) g g1 g2 e)⟩,c.mono (fun g _ hg=>hh 0 (by omega) g hg.1 hg.2)⟩))
  (fun u ⟨p0,p1,p2,p3,p4⟩=>(p1.markR (wK1 (n+1) k D) (by omega) (by omega)).mono (fun e u' ⟨r,q,c⟩=>⟨r,⟨LsI.chg (BC _) p0 c (fun g g1 g2 e=>ap 0 1 (by omega) (by omega) (by omega) g g1 g2 e),q,LsI.chg Dj p2 c (fun g g1 g2 e=>ap 2 1 (by omega) (by omega) (by omega) g g1 g2 e),p3.chg c (fun g g1 g2 e=>ap 3 1 (by omega) (by omega) (by omega) g g1 g2 e),LsI.chg Dj p4 c (fun g g1 g2 e=>ap 4 1 (by omega) (by omega) (by omega) g g1 g2 e)⟩,c.mono (fun g _ hg=>hh 1 (by omega) g hg.1 hg.2)⟩))
  (fun u ⟨p0,p1,p2,p3,p4⟩=>(p2.markC (wK2 (n+1) k D) (by omega) (by omega)).mono (fun e u' ⟨r,q,c⟩=>⟨r,⟨LsI.chg (BC _) p0 c (fun g g1 g2 e=>ap 0 2 (by omega) (by omega) (by omega) g g1 g2 e),LsI.chg (Ce _) p1 c (fun g g1 g2 e=>ap 1 2 (by omega) (by omega) (by omega) g g1 g2 e),q,p3.chg c (fun g g1 g2 e=>ap 3 2 (by omega) (by omega) (by omega) g g1 g2 e),LsI.chg Dj p4 c (fun g g1 g2 e=>ap 4 2 (by omega) (by omega) (by omega) g g1 g2 e)⟩,c.mono (fun g _ hg=>hh 2 (by omega) g hg.1 hg.2)⟩))
  (fun u ⟨p0,p1,p2,p3,p4⟩=>(p3.markD (wK3 (n+1) k D) (by omega) (by omega)).mono (fun e u' ⟨r,q,c⟩=>⟨r,⟨LsI.chg (BC _) p0 c (fun g g1 g2 e=>ap 0 3 (by omega) (by omega) (by omega) g g1 g2 e),LsI.chg (Ce _) p1 c (fun g g1 g2 e=>ap 1 3 (by omega) (by omega) (by omega) g g1 g2 e),LsI.chg Dj p2 c (fun g g1 g2 e=>ap 2 3 (by omega) (by omega) (by omega) g g1 g2 e),q,LsI.chg Dj p4 c (fun g g1 g2 e=>ap 4 3 (by omega) (by omega) (by omega) g g1 g2 e)⟩,c.mono (fun g _ hg=>hh 3 (by omega) g hg.1 hg.2)⟩))
  (fun u ⟨p0,p1,p2,p3,p4⟩=>(p4.markL (wK4 (n+1) k D) (by omega) (by omega)).mono (fun e u' ⟨r,q,c⟩=>⟨r,⟨LsI.chg (BC _) p0 c (fun g g1 g2 e=>ap 0 4 (by omega) (by omega) (by omega) g g1 g2 e),LsI.chg (Ce _) p1 c (fun g g1 g2 e=>ap 1 4 (by omega) (by omega) (by omega) g g1 g2 e),LsI.chg Dj p2 c (fun g g1 g2 e=>ap 2 4 (by omega) (by omega) (by omega) g g1 g2 e),p3.chg c (fun g g1 g2 e=>ap 3 4 (by omega) (by omega) (by omega) g g1 g2 e),q⟩,c.mono (fun g _ hg=>hh 4 (by omega) g hg.1 hg.2)⟩))).mono ?_
 rintro e w' ⟨r,⟨p0,p1,p2,p3,p4⟩,c⟩
 exact⟨r,⟨a,b,h1,h2,Nat.le_trans h3 c.size,p0,p1,p2,p3,p4⟩,c⟩

theorem Lt (n:Nat) (W:WrV) (D:Wd) (k:Int) (w:World) (h:CG (n+1) w W (wMk (n+1) k D)) (hk0:0<=k) (hk1:wK5 (n+1) k D<=67108864) :
  Calls Tryz.prog 15 #[W.val, .int .i64 k] w fun e w' =>e= .returned (.int .i64 (wK5 (n+1) k D))/\Below w.heap.size w w' :=by
 have e1:wK1 (n+1) k D=k+(AC (BK (n+1)) D.ns D.ns.length:Nat):=rfl
 have e2:wK2 (n+1) k D=wK1 (n+1) k D+(AC (BL (n+1)) D.rs D.rs.length:Nat):=rfl
 have e3:wK3 (n+1) k D=wK2 (n+1) k D+5*(D.cs.length:Nat):=rfl
 have e4:wK4 (n+1) k D=wK3 (n+1) k D+4*(D.ds.length:Nat):=rfl
 have e5:wK5 (n+1) k D=wK4 (n+1) k D+2*(D.ls.length:Nat):=rfl
 obtain⟨sz,nv,rv,cv,av,lv⟩:=W
 obtain⟨o0,o1,o2,o3,o4⟩:=h
 simp only at o0 o1 o2 o3 o4
 obtain⟨a0,q0,hz,_⟩:=o0.len
 subst hz;obtain⟨a1,q1,hz,_⟩:=o1.len
 subst hz;obtain⟨a2,q2,hz,_⟩:=o2.len
 subst hz;obtain⟨a3,q3,hz,_⟩:=o3.len
 subst hz;obtain⟨a4,q4,hz,_⟩:=o4.len
 subst hz;exact Ls (k1:=wK1 (n+1) k D) (k2:=wK2 (n+1) k D) (k3:=wK3 (n+1) k D) (k4:=wK4 (n+1) k D) (k5:=wK5 (n+1) k D) w (by omega) (by omega) (by omega) (by omega) (by omega)
  (fun u hb=>I6 n _ D.ns k u (o0.below (FP _) hb) hk0 (by omega))
  (fun u hb=>KL n _ D.rs (wK1 (n+1) k D) u (o1.below (FH _) hb) (by omega) (by omega))
  (fun u hb=>Km _ D.cs.length (wK2 (n+1) k D) u (o2.below Et hb) (by omega) (by omega))
  (fun u hb=>DE _ D.ds.length (wK3 (n+1) k D) u (by have:=o3.below hb;simp only[wMk,A9] at this ⊢;exact this) (by omega) (by omega) (by omega))
  (fun u hb=>I5 _ D.ls.length (wK4 (n+1) k D) u (o4.below Et hb) (by omega) (by omega))
end
section
open Go.RowKit

def Ltp (w w' :World):Prop:=Below w.heap.size w w'
theorem Ltp.refl (w:World):Ltp w w:=Below.refl _ _
theorem Ltp.trans {a b c:World} (h:Ltp a b) (k:Ltp b c):Ltp a c:=Below.and h k

def Oc:Op->Bool
 |.select _ _=>false
 |_=>true
def Ef (l:List Oper) (k:Nat):Option Tmp:=(l[k]?).bind (·.dst)
def Fu (o:Oper) (k:Nat):Bool:=o.after.any fun e=>Region.binds .any e&&e.on==k
def Sz (l:List Oper):Bool:=(List.range l.length).all fun i=>match l[i]? with
 | some o => o.guard.isNone && Oc o.op && o.dst.isSome && (o.after.toList.all fun e => decide (e.on < i)) && ((List.range l.length).all fun k => k == i || !(Ef l k == o.dst)) &&
   (o.op.operands.toList.all fun x=>match x with| .tmp t=>(List.range l.length).all fun k=> !(Ef l k==some t)||Fu o k|_=>true)
 |none=>false
structure Uj (l:List Oper) (i:Nat) (o:Oper):Prop where
 gd:o.guard=none
 ns:Oc o.op=true
 ds:∃t,o.dst=some t
 af:∀e∈o.after,e.on<i
 dd:∀k,k<l.length->k≠i->Ef l k≠o.dst
 rd:∀t,Operand.tmp t∈o.op.operands->∀k,k<l.length->Ef l k=some t->Fu o k=true
theorem Fd {l:List Oper} (h:Sz l=true) {i:Nat} {o:Oper} (ho:l[i]? =some o):Uj l i o:=by
 have hi:=(List.getElem?_eq_some_iff.1 ho).1
 have h1:=List.all_eq_true.1 h i (List.mem_range.2 hi)
 simp only[ho,Bool.and_eq_true] at h1
 obtain⟨⟨⟨⟨⟨g1,g2⟩,g3⟩,g4⟩,g5⟩,g6⟩:=h1
 refine⟨by simpa using g1,g2,Option.isSome_iff_exists.1 g3,fun e he=> ?_,fun k hk hki=> ?_,fun t ht k hk hd=> ?_⟩
 ·have:=List.all_eq_true.1 g4 e (by simpa using he)
  simpa using this
 ·have:=List.all_eq_true.1 g5 k (List.mem_range.2 hk)
  simp only[Bool.or_eq_true,beq_iff_eq,Bool.not_eq_true',beq_eq_false_iff_ne] at this
  exact this.resolve_left hki
 ·have:=List.all_eq_true.1 g6 (.tmp t) (by simpa using ht)
  have:=List.all_eq_true.1 this k (List.mem_range.2 hk)
  simp only[hd,BEq.rfl,Bool.not_true,Bool.false_or] at this
  exact this

def Dm (l:List Oper) (a:Act) (v:Nat->Value) (p:Nat->Bool):Nat->Act
 |0=>a
 |k+1=>if p k then (Dm l a v p k).put (Ef l k) (v k) else Dm l a v p k
theorem PI {a:Act} {d:Option Tmp} {v:Value}:(a.put d v).tmps.size=a.tmps.size:=by cases d<;>simp[Act.put]
theorem Hs {l:List Oper} {a:Act} {v:Nat->Value} {p:Nat->Bool}:∀n,(Dm l a v p n).tmps.size=a.tmps.size
 |0=>rfl
 |k+1=>by
  simp only[Dm]
  split
  ·rw[PI,Hs k]
  ·exact Hs k
theorem Nu {a b:Act} {t:Tmp} {v:Value} (h:a.tmps.size=b.tmps.size):(a.put (some t) v).eval (.tmp t)=(b.put (some t) v).eval (.tmp t):=by
 by_cases ht:t<a.tmps.size
 ·have ht2:t<b.tmps.size:=h ▸ ht
  simp[Act.put,Act.eval,ht,ht2]
 ·have ht2:¬t<b.tmps.size:=h ▸ ht
  simp[Act.put,Act.eval,ht,ht2]
theorem EU {l:List Oper} {a:Act} {v:Nat->Value} {p:Nat->Bool} {x:Operand}:∀n,(∀k t,k<n->Ef l k=some t->x≠ .tmp t)->(Dm l a v p n).eval x=a.eval x
 |0,_=>rfl
 |k+1,h=>by
  simp only[Dm]
  split
  ·rw[Act.eval_put (fun d hd=>h k d (Nat.lt_succ_self _) hd)]
   exact EU k (fun k' t hk=>h k' t (by omega))
  ·exact EU k (fun k' t hk=>h k' t (by omega))
theorem LV {l:List Oper} {a:Act} {v:Nat->Value} {p:Nat->Bool} {k:Nat} {t:Tmp} (hd:Ef l k=some t) (hp:p k=true):∀n,k<n->(∀j,j<n->j≠k->Ef l j≠some t)->(Dm l a v p n).eval (.tmp t)=(a.put (some t) (v k)).eval (.tmp t)
 |0,hk,_=>absurd hk (Nat.not_lt_zero _)
 |m+1,hk,h=>by
  simp only[Dm]
  by_cases e:m=k
  ·subst e;rw[if_pos hp,hd]
   exact Nu (Hs m)
  ·have ih:=LV (a:=a) (v:=v) (p:=p) hd hp m (by omega) (fun j hj=>h j (by omega))
   split
   ·rw[Act.eval_put (fun d hd' e' =>h m (Nat.lt_succ_self _) e (by cases e';exact hd'))]
    exact ih
   ·exact ih
def F0 (p:Nat->Bool) (i:Nat):Nat->Bool:=fun k=>if k=i then true else p k
def L8 (v:Nat->Value) (i:Nat) (x:Value):Nat->Value:=fun k=>if k=i then x else v k
theorem Jy {l:List Oper} {a:Act} {v:Nat->Value} {p:Nat->Bool} {i:Nat} {x:Value}:∀n,n<=i->Dm l a (L8 v i x) (F0 p i) n=Dm l a v p n
 |0,_=>rfl
 |k+1,h=>by
  have e1:F0 p i k=p k:=if_neg (by omega)
  have e2:L8 v i x k=v k:=if_neg (by omega)
  have ih:=Jy (l:=l) (a:=a) (v:=v) (p:=p) (x:=x) k (show k<=i by omega)
  simp only[Dm,e1,e2,ih]
theorem Lk {l:List Oper} {a:Act} {v:Nat->Value} {p:Nat->Bool} {i:Nat} {x:Value} (hp:p i=false):∀n,i<n->(∀j,j<n->j≠i->Ef l j≠Ef l i)->(∃t,Ef l i=some t)->Dm l a (L8 v i x) (F0 p i) n=(Dm l a v p n).put (Ef l i) x
 |0,h,_,_=>absurd h (Nat.not_lt_zero _)
 |m+1,h,hd,ht=>by
  by_cases e:m=i
  ·subst e;have e1:F0 p m m=true:=if_pos rfl
   have e2:L8 v m x m=x:=if_pos rfl
   simp only[Dm,e1,e2,if_true,hp,Bool.false_eq_true,if_false]
   rw[Jy m (Nat.le_refl _)]
  ·have e1:F0 p i m=p m:=if_neg e
   have e2:L8 v i x m=v m:=if_neg e
   have ih:=Lk (a:=a) (v:=v) (x:=x) hp m (by omega) (fun j hj=>hd j (by omega)) ht
   simp only[Dm,e1,e2,ih]
   split
   ·rw[Act.put_comm]
    intro d h1 h2;exact hd m (Nat.lt_succ_self _) e (h2.trans h1.symm)
   ·rfl

def AV (P:Program) (o:Oper) (ρ :Operand->Value) (w:World) (F:Value->World->Prop):Prop:=
 match (execOp ρ o).run P w with
 |.ok (.value v) w' =>F v w'
 |.ok .skip w' =>F undef w'
 |.ok (.enter f args) w' =>Calls P f args w' fun e w'' =>∃v,e= .returned v/\F v w''
 |_=>False
theorem AV.wp {P:Program} {o:Oper} {a:Act} {w:World} {F:Value->World->Prop} {K:Act->World->Prop} {Q:Exit->Act->World->Prop} (h:AV P o a.eval w F) (hK:∀v w',F v w' ->K (a.put o.dst v) w'):o.wp P a w K Q:=by
 unfold AV at h;unfold Oper.wp
 generalize (execOp a.eval o).run P w=r at *
 cases r with
 |ok n w'=>
  cases n<;>simp only[Oper.upon] at h ⊢
  case value v=>exact hK _ _ h
  case skip=>exact hK _ _ h
  case enter f args=>
   refine Calls.mono h fun e w'' k=> ?_
   obtain⟨v,rfl,hf⟩:=k
   exact hK _ _ hf
 |halt x w' =>exact h.elim
theorem AV.value {P:Program} {o:Oper} {ρ :Operand->Value} {w w' :World} {v:Value} {F:Value->World->Prop} (hr:(execOp ρ o).run P w= .ok (.value v) w') (h:F v w'):AV P o ρ w F:=by
 unfold AV;rw[hr]
 exact h
theorem AV.enter {P:Program} {o:Oper} {ρ :Operand->Value} {w w' :World} {f:FuncId} {args:Array Value} {F:Value->World->Prop} (hr:(execOp ρ o).run P w= .ok (.enter f args) w') (h:Calls P f args w' fun e w'' =>∃v,e= .returned v/\F v w''):AV P o ρ w F:=by
 unfold AV;rw[hr]
 exact h

def Ho (p:Nat->Bool):Nat->Nat
 |0=>0
 |k+1=>(if p k then 0 else 1)+Ho p k
theorem JC {p:Nat->Bool} {i:Nat}:∀n,n<=i->Ho (F0 p i) n=Ho p n
 |0,_=>rfl
 |k+1,h=>by
  have e1:F0 p i k=p k:=if_neg (by omega)
  simp only[Ho,e1,JC k (show k<=i by omega)]
theorem Lh {p:Nat->Bool} {i:Nat} (hp:p i=false):∀n,i<n->Ho p n=Ho (F0 p i) n+1
 |0,h=>absurd h (Nat.not_lt_zero _)
 |m+1,h=>by
  by_cases e:m=i
  ·subst e;have e1:F0 p m m=true:=if_pos rfl
   simp only[Ho,e1,hp,JC m (Nat.le_refl m)]
   simp
   omega
  ·have e1:F0 p i m=p m:=if_neg e
   have ih:=Lh hp m (by omega)
   simp only[Ho,e1]
   omega
theorem JL {p:Nat->Bool}:∀n,Ho p n=0->∀k,k<n->p k=true
 |0,_,k,h=>absurd h (Nat.not_lt_zero _)
 |m+1,h,k,hk=>by
  simp only[Ho] at h
  by_cases e:k=m
  ·subst e;by_cases hp:p k=true
   ·exact hp
   ·rw[if_neg hp] at h;omega
  ·exact JL m (by omega) k (by omega)
theorem Ii:∀n,Ho (fun _=>false) n=n
 |0=>rfl
 |m+1=>by simp only[Ho,Ii m];simp;omega
theorem LQ {l:List Oper} {a:Act} {v:Nat->Value} {p q:Nat->Bool}:∀n,(∀k,k<n->p k=q k)->Dm l a v p n=Dm l a v q n
 |0,_=>rfl
 |k+1,h=>by
  have ih:=LQ (l:=l) (a:=a) (v:=v) k (fun k' hk=>h k' (by omega))
  simp only[Dm,h k (Nat.lt_succ_self _),ih]
theorem Jr {l:List Oper} {a:Act} {v:Nat->Value}:∀n,Dm l a v (fun _=>false) n=a
 |0=>rfl
 |k+1=>by simp only[Dm,Jr k];simp

def Tl (l:List Oper) (t:Tmp):Bool:=(List.range l.length).all fun k=> !(Ef l k==some t)
section
variable {P:Program} {l:List Oper} {Q:Exit->Act->World->Prop} {w0:World} {a0:Act} {Φ :Nat->Value->Nat->Nat->World->Prop}

def Sf (P:Program) (l:List Oper) (N:Nat) (w0:World) (a0:Act) (Φ :Nat->Value->Nat->Nat->World->Prop):Prop:=
 ∀i o,l[i]? =some o->∀(ρ :Operand->Value) (v:Nat->Value) (x y:Nat->Nat) (w:World),Ltp w0 w->(∀k t,k<l.length->Fu o k=true->Ef l k=some t->t<N-> ρ (.tmp t)=v k)→
  (∀k,k<l.length->Fu o k=true-> Φ k (v k) (x k) (y k) w/\w0.heap.size<=x k/\x k<=y k/\y k<=w.heap.size)->(∀j k,j<l.length->k<l.length->Fu o j=true->Fu o k=true->j≠k->y j<=x k∨y k<=x j)->(∀t,Tl l t=true-> ρ (.tmp t)=a0.eval (.tmp t))->(∀z:Operand,(∀t,z≠ .tmp t)-> ρ z=a0.eval z)->AV P o ρ w (fun u w' =>Ltp w w' ∧ Φ i u w.heap.size w'.heap.size w')

def Ob (w0 w:World) (n:Nat) (p:Nat->Bool) (x y:Nat->Nat):Prop:=(∀k,k<n->p k=true->w0.heap.size<=x k/\x k<=y k/\y k<=w.heap.size)/\∀j k,j<n->k<n->p j=true->p k=true->j≠k->y j<=x k∨y k<=x j
theorem Tc (hl:Sz l=true) (stab:∀k v x y w w', Φ k v x y w->Ltp w w' -> Φ k v x y w') {N:Nat} (hN:a0.tmps.size=N) (step:Sf P l N w0 a0 Φ)
  (fin:∀v x y w,Ltp w0 w->Ob w0 w l.length (fun _=>true) x y->(∀k,k<l.length-> Φ k (v k) (x k) (y k) w)->Q .normal (Dm l a0 v (fun _=>true) l.length) w) :
  ∀(fuel:Nat) (listed:Array Bool) (p:Nat->Bool) (v:Nat->Value) (x y:Nat->Nat) (w:World),Ho p l.length=fuel->listed.size=l.length->(∀k,k<l.length->listed.getD k true=p k)->Ltp w0 w->Ob w0 w l.length p x y->(∀k,k<l.length->p k=true-> Φ k (v k) (x k) (y k) w)→
   wpAnyH P .any l.toArray Q (fun w=>Ltp w0 w) fuel listed (Dm l a0 v p l.length) w:=by
 have rdy:∀(listed:Array Bool) (p:Nat->Bool) (i:Nat),listed.size=l.length->(∀k,k<l.length->listed.getD k true=p k)->i∈Region.ready .any l.toArray listed->p i=false/\i<l.length/\∃o,l[i]? =some o/\∀e∈o.after,Region.binds .any e=true->p e.on=true:=by
  intro listed p i hs hp hi;obtain⟨h1,o,ho,h2⟩:=mem_ready.1 hi
  have ho' :l[i]? =some o:=by simpa using ho
  have hil:=(List.getElem?_eq_some_iff.1 ho').1
  refine⟨by rw[←hp i hil];exact h1,hil,o,ho',fun e he hb=> ?_⟩
  have hon:=(Fd hl ho').af e he
  have h3:=h2 e he hb
  rw[←hp e.on (by omega)]
  have:e.on<listed.size:=by omega
  simp[this] at h3 ⊢
  exact h3
 have fins:∀(p:Nat->Bool) (v:Nat->Value) (x y:Nat->Nat) (w:World),(∀k,k<l.length->p k=true)->Ltp w0 w->Ob w0 w l.length p x y->(∀k,k<l.length->p k=true-> Φ k (v k) (x k) (y k) w)->Q .normal (Dm l a0 v p l.length) w:=by
  intro p v x y w hall hw ht hf;rw[LQ (q:=fun _=>true) l.length hall]
  exact fin v x y w hw ⟨fun k hk _=>ht.1 k hk (hall k hk),fun j k hj hk _ _=>ht.2 j k hj hk (hall j hj) (hall k hk)⟩ (fun k hk=>hf k hk (hall k hk))
 intro fuel;induction fuel with
 |zero=>
  intro listed p v x y w hc hs hp hw htm hf;have hall:=JL _ hc
  refine⟨List.eq_nil_iff_forall_not_mem.2 fun i hi=> ?_,fins p v x y w hall hw htm hf⟩
  obtain⟨h1,h2,_⟩:=rdy listed p i hs hp hi
  rw[hall i h2] at h1
  cases h1
 |succ fuel ih=>
  intro listed p v x y w hc hs hp hw htm hf;refine⟨fun h0=> ?_,fun i hi=> ?_⟩
  ·refine fins p v x y w (fun k=> ?_) hw htm hf
   induction k using Nat.strongRecOn with
   |ind k ihk=>
    intro hk;by_cases hpk:p k=true
    ·exact hpk
    ·exfalso
     have hm:k∈Region.ready .any l.toArray listed:=mem_ready.2 ⟨by rw[hp k hk];simpa using hpk,l[k],by simp[hk],fun e he hb=>by
      have hon:=(Fd hl (i:=k) (o:=l[k]) (by simp[hk])).af e he
      have h3:=hp e.on (by omega)
      rw[ihk e.on hon (by omega)] at h3
      have:e.on<listed.size:=by omega
      simp[this] at h3 ⊢
      exact h3⟩
     rw[h0] at hm
     cases hm
  ·obtain⟨h1,h2,o,ho,h3⟩:=rdy listed p i hs hp hi
   have O:=Fd hl ho
   obtain⟨t,ht⟩:=O.ds
   have hdi:Ef l i=some t:=by simp[Ef,ho,ht]
   unfold wpOp;have ho2:l.toArray[i]? =some o:=by simpa using ho
   simp only[ho2]
   rw[if_pos (by simp[Region.wanted,O.gd])]
   refine .inl ?_
   have wt:∀k,Fu o k=true->k<i/\p k=true:=fun k hk=>by
    unfold Fu at hk;obtain⟨e,he,hb⟩:=Array.any_eq_true'.1 hk
    simp only[Bool.and_eq_true,beq_iff_eq] at hb
    have:=O.af e he
    have:=h3 e he hb.1
    rw[hb.2] at *
    exact⟨by assumption,by assumption⟩
   have D:=step i o ho (Dm l a0 v p l.length).eval v x y w hw (fun k t' hk hw' hd hlt=>by
    rw[LV hd (wt k hw').2 l.length hk (fun j hj hjk e=>(Fd hl (i:=k) (o:=l[k]) (by simp[hk])).dd j hj hjk (by rw[e];simp[Ef,hk] at hd;exact hd.symm))]
    simp[Act.put,Act.eval,hN,hlt]) (fun k hk hw' =>⟨hf k hk (wt k hw').2,htm.1 k hk (wt k hw').2⟩) (fun j k hj hk wj wk hjk=>htm.2 j k hj hk (wt j wj).2 (wt k wk).2 hjk) (fun t' ht' =>EU l.length (fun k t2 hk hd e=>by
    cases e
    have:=List.all_eq_true.1 ht' k (List.mem_range.2 hk)
    simp[hd] at this)) (fun z hz=>EU l.length (fun k t2 hk hd e=>hz t2 e))
   refine D.wp (fun u w' hu=>⟨hw.trans hu.1, ?_⟩)
   have e:=Lk (l:=l) (a:=a0) (v:=v) (x:=u) h1 l.length h2 (fun j hj hji=>by rw[hdi, ← ht];exact O.dd j hj hji) ⟨t,hdi⟩
   rw[show o.dst=Ef l i by rw[hdi,ht], ← e]
   have hz:=hu.1.size
   refine ih (listed.setIfInBounds i true) (F0 p i) (L8 v i u) (fun k=>if k=i then w.heap.size else x k) (fun k=>if k=i then w'.heap.size else y k) w' (by have:=Lh h1 l.length h2;omega) (by simpa using hs) (fun k hk=> ?_) (hw.trans hu.1) ⟨fun k hk hpk=> ?_,fun j k hj hk hpj hpk hjk=> ?_⟩ (fun k hk hpk=> ?_)
   ·by_cases ek:i=k
    ·subst ek;have:i<listed.size:=by omega
     simp[this,F0]
    ·rw[getD_set_ne true ek,hp k hk]
     exact(if_neg (Ne.symm ek)).symm
   ·by_cases ek:k=i
    ·simp only[if_pos ek]
     exact⟨hw.size,hz,Nat.le_refl _⟩
    ·simp only[if_neg ek]
     have e2:F0 p i k=p k:=if_neg ek
     rw[e2] at hpk
     have:=htm.1 k hk hpk
     omega
   ·have ej:j≠i->F0 p i j=p j:=fun h=>if_neg h
    have ek:k≠i->F0 p i k=p k:=fun h=>if_neg h
    by_cases e1:j=i
    ·have e2:k≠i:=fun h=>hjk (e1.trans h.symm)
     simp only[if_pos e1,if_neg e2]
     rw[ek e2] at hpk
     exact .inr (htm.1 k hk hpk).2.2
    ·simp only[if_neg e1]
     rw[ej e1] at hpj
     by_cases e2:k=i
     ·simp only[if_pos e2]
      exact .inl (htm.1 j hj hpj).2.2
     ·simp only[if_neg e2]
      rw[ek e2] at hpk
      exact htm.2 j k hj hk hpj hpk hjk
   ·by_cases ek:k=i
    ·subst ek;have:L8 v k u k=u:=if_pos rfl
     rw[this]
     simp only[if_true]
     exact hu.2
    ·have e1:L8 v i u k=v k:=if_neg ek
     rw[e1]
     simp only[if_neg ek]
     refine stab k _ _ _ w w' (hf k hk ?_) hu.1
     have e2:F0 p i k=p k:=if_neg ek
     rw[←e2]
     exact hpk
theorem J8 (hl:Sz l=true) (stab:∀k v x y w w', Φ k v x y w->Ltp w w' -> Φ k v x y w') {N:Nat} (hN:a0.tmps.size=N) (step:Sf P l N w0 a0 Φ)
  (fin:∀v x y w,Ltp w0 w->Ob w0 w l.length (fun _=>true) x y->(∀k,k<l.length-> Φ k (v k) (x k) (y k) w)->Q .normal (Dm l a0 v (fun _=>true) l.length) w):wpAnyH P .any l.toArray Q (fun w=>Ltp w0 w) l.length (Array.replicate l.length false) a0 w0:=by
 have h:=Tc (P:=P) (Q:=Q) hl stab hN step fin l.length (Array.replicate l.length false) (fun _=>false) (fun _=>undef) (fun _=>0) (fun _=>0) w0 (Ii _) (by simp) (fun k hk=>by simp[hk]) (Ltp.refl _) ⟨fun k _ h=>absurd h (by simp),fun j k _ _ h=>absurd h (by simp)⟩ (fun k _ h=>absurd h (by simp))
 rwa [Jr] at h

end
end
end Go.Proofs.YtkcaelfkcepdkaaGreat
