/-
  Lists of structs in memory of their own, what each leads to in a stretch of blocks.
  toRpc: what comes lies in memory of its own, the machine's rows apart.
-/
import Derived.Test.YtkcaelfkcepdkaaGreatOfNote23
import Derived.Test.YtkcaelfkcepdkaaGreatOfNote24
import Derived.Test.YtkcaelfkcepdkaaGreatOfNote6
import Derived.Test.YtkcaelfkcepdkaaGreatOfNote21
import Derived.Test.YtkcaelfkcepdkaaGreatOfNote22
namespace Go.Proofs.YtkcaelfkcepdkaaGreat
set_option maxRecDepth 100000
set_option maxHeartbeats 8000000
section
open Go.RowKit

def Kh {ε :Type} (R:World->Nat->Nat-> ε ->Prop):Prop:=∀(w w' :World) (a b:Nat) (e: ε) (P:Nat->Prop),R w a b e->Chg P w w' ->(∀g,a<=g->g<b->¬P g)->R w' a b e
def Fi (n:Nat) (w:World) (a b:Nat) (e:BH):Prop:=Eg n w (fun g=>a<=g/\g<b) e.1 e.2
def FQ (n:Nat) (w:World) (a b:Nat) (e:BU):Prop:=Ee n w (fun g=>a<=g/\g<b) e.1 e.2
def noI {ε :Type} (_:World) (_ _:Nat) (_: ε):Prop:=True
theorem BC (n:Nat):Kh (Fi n):=fun _ _ _ _ _ _ h hc hP=>Eg.chg h hc (fun g hg=>hP g hg.1 hg.2)
theorem Ce (n:Nat):Kh (FQ n):=fun _ _ _ _ _ _ h hc hP=>Ee.chg h hc (fun g hg=>hP g hg.1 hg.2)
theorem Dj {ε :Type}:Kh (ε := ε) noI:=fun _ _ _ _ _ _ _ _ _=>trivial
def E8 {ε :Type} (R:World->Nat->Nat-> ε ->Prop) (d: ε) (w:World) (lo hi:Nat) (v:Value) (es:List ε):Prop:=
 ∃a b:Nat->Nat,(∀i,i<es.length->lo<=a i/\a i<=b i/\b i<=hi/\R w (a i) (b i) (es.getD i d)/\∀g,a i<=g->g<b i->¬wrB v g)/\∀i j,i<j->j<es.length->b i<=a j
theorem E8.chg {ε :Type} {R:World->Nat->Nat-> ε ->Prop} {d: ε} {w w' :World} {lo hi:Nat} {v:Value} {es:List ε} {P:Nat->Prop} (hR:Kh R) (h:E8 R d w lo hi v es) (hc:Chg P w w') (hP:∀g,lo<=g->g<hi->¬wrB v g->¬P g):E8 R d w' lo hi v es:=by
 obtain⟨a,b,h1,h2⟩:=h
 refine⟨a,b,fun i hi=> ?_,h2⟩
 obtain⟨k1,k2,k3,k4,k5⟩:=h1 i hi
 exact⟨k1,k2,k3,hR _ _ _ _ _ _ k4 hc (fun g g1 g2=>hP g (by omega) (by omega) (k5 g g1 g2)),k5⟩
theorem E8.nil {ε :Type} (R:World->Nat->Nat-> ε ->Prop) (d: ε) (w:World) (lo hi:Nat) (v:Value):E8 R d w lo hi v []:=⟨fun _=>0,fun _=>0,fun _ h=>absurd h (Nat.not_lt_zero _),fun _ _ _ h=>absurd h (Nat.not_lt_zero _)⟩
theorem E8.up {ε :Type} {R:World->Nat->Nat-> ε ->Prop} {d: ε} {w:World} {lo lo' hi hi' :Nat} {v:Value} {es:List ε} (h:E8 R d w lo hi v es) (h1:lo' <=lo) (h2:hi<=hi'):E8 R d w lo' hi' v es:=by
 obtain⟨a,b,k1,k2⟩:=h
 exact⟨a,b,fun i hi=>⟨by have:=(k1 i hi).1;omega,(k1 i hi).2.1,by have:=(k1 i hi).2.2.1;omega,(k1 i hi).2.2.2⟩,k2⟩
theorem E8.snoc {ε :Type} {R:World->Nat->Nat-> ε ->Prop} {d: ε} {w:World} {lo hi x y hi' :Nat} {v v' :Value} {es:List ε} {f: ε} (h:E8 R d w lo hi v es) (hx:lo<=x) (h1:hi<=x) (h2:x<=y) (h3:y<=hi') (hf:R w x y f) (hv:∀g,lo<=g->g<hi->¬wrB v g->¬wrB v' g) (hn:∀g,x<=g->g<y->¬wrB v' g):E8 R d w lo hi' v' (es++[f]):=by
 obtain⟨a,b,k1,k2⟩:=h
 refine⟨fun i=>if i<es.length then a i else x,fun i=>if i<es.length then b i else y,fun i hi=> ?_,fun i j hij hj=> ?_⟩
 ·by_cases hl:i<es.length
  ·obtain⟨q1,q2,q3,q4,q5⟩:=k1 i hl
   simp only[if_pos hl]
   refine⟨q1,q2,by omega, ?_,fun g g1 g2=>hv g (by omega) (by omega) (q5 g g1 g2)⟩
   simp only[List.getD] at q4 ⊢
   rw[List.getElem?_append_left hl]
   exact q4
  ·have e:i=es.length:=by simp at hi;omega
   subst e;simp only[if_neg hl]
   refine⟨hx,h2,h3, ?_,hn⟩
   simp only[List.getD]
   rw[List.getElem?_append_right (Nat.le_refl _),Nat.sub_self]
   exact hf
 ·have hi:i<es.length:=by simp at hj;omega
  simp only[if_pos hi]
  by_cases hl:j<es.length
  ·simp only[if_pos hl];exact k2 i j hij hl
  ·simp only[if_neg hl]
   have:=(k1 i hi).2.2.1
   omega
def LsI {ε :Type} (cs: ε ->List Value) (R:World->Nat->Nat-> ε ->Prop) (d: ε) (ty K:Nat) (w:World) (lo hi:Nat) (v:Value) (es:List ε):Prop:=
 Ac w lo ty K v es.length (es.map cs).flatten/\(∀g,wrB v g->g<hi)/\lo<=hi/\hi<=w.heap.size/\E8 R d w lo hi v es
section
variable {ε :Type} {cs: ε ->List Value} {R:World->Nat->Nat-> ε ->Prop} {d: ε} {ty K:Nat} {w w' :World} {lo hi:Nat} {v:Value} {es:List ε}
theorem LsI.chg {P:Nat->Prop} (hR:Kh R) (h:LsI cs R d ty K w lo hi v es) (hc:Chg P w w') (hP:∀g,lo<=g->g<hi->¬P g):LsI cs R d ty K w' lo hi v es:=
 ⟨h.1.chg hc (fun g hg=>hP g (h.1.lt g hg).1 (h.2.1 g hg)),h.2.1,h.2.2.1,Nat.le_trans h.2.2.2.1 hc.size,h.2.2.2.2.chg hR hc (fun g a b _=>hP g a b)⟩
theorem LsI.below (hR:Kh R) (h:LsI cs R d ty K w lo hi v es) (hb:Below w.heap.size w w'):LsI cs R d ty K w' lo hi v es:=h.chg hR (Chg.of_below (F:=fun _=>False) hb) (fun _ _ _ e=>e)
theorem LsI.up {lo' hi' :Nat} (h:LsI cs R d ty K w lo hi v es) (h1:lo' <=lo) (h2:hi<=hi') (h3:hi' <=w.heap.size):LsI cs R d ty K w lo' hi' v es:=
 ⟨h.1.mono h1,fun g hg=>Nat.lt_of_lt_of_le (h.2.1 g hg) h2,by have:=h.2.2.1;omega,h3,h.2.2.2.2.up h1 h2⟩
theorem LsI.nil (w:World) {lo hi:Nat} (h1:lo<=hi) (h2:hi<=w.heap.size):LsI cs R d ty K w lo hi (.slice none 0 0) []:=⟨Ac.nil _ _ _ _,fun g hg=>(Rw g hg).elim,h1,h2,E8.nil _ _ _ _ _ _⟩
theorem LsI.at {At:World-> ε ->Prop} (hA:∀w a b e,R w a b e->At w e) (h:LsI cs R d ty K w lo hi v es):Cr cs At w v es:=by
 obtain⟨h1,_,_,_,a,b,h2,_⟩:=h
 refine⟨h1.rowF.row,fun e he=> ?_⟩
 obtain⟨i,hi,rfl⟩:=List.getElem_of_mem he
 have:=(h2 i hi).2.2.2.1
 simp only[List.getD,List.getElem?_eq_getElem hi,Option.getD_some] at this
 exact hA _ _ _ _ this
theorem LsI.snoc {x y:Nat} {w4 w5:World} {v' :Value} {f: ε} (hR:Kh R) (h:LsI cs R d ty K w lo hi v es) (hb:Below w.heap.size w w4) (hf:R w4 x y f) (h1:hi<=x) (h2:x<=y) (h3:y<=w4.heap.size) (ap:EB w4 lo ty K v (es.length+1) ((es.map cs).flatten++cs f) v' w5):LsI cs R d ty K w5 lo w5.heap.size v' (es++[f]):=by
 obtain⟨k1,k2,k3,k4,k5⟩:=h
 obtain⟨a1,a2,a3,a4⟩:=ap
 have hs:=hb.size
 have hs2:=a2.size
 refine⟨by simpa using a1,fun g hg=>(a1.lt g hg).2,by omega,Nat.le_refl _, ?_⟩
 have q1:=(k5.chg hR (Chg.of_below (F:=fun _=>False) hb) (fun _ _ _ _ e=>e)).chg hR a2 (fun g _ _ hn e=>hn e)
 refine q1.snoc (hi' :=w5.heap.size) (by omega) h1 h2 (by omega) (hR _ _ _ _ _ _ hf a2 (fun g g1 _ e=>by have:=k2 g e;omega)) (fun g _ g2 hn e=> ?_) (fun g g1 g2 e=> ?_)
 ·rcases a4 g e with e|e
  ·exact hn e
  ·omega
 ·rcases a4 g e with e|e
  ·have:=k2 g e;omega
  ·omega
end
end
section
open Go.RowKit

def EJ (n:Nat) (w:World) (base:Nat) (R:BP) (D:Rd):Prop:=w.ownsRow base 119 6 R.ev D.l.length (Af D.l)/\AQ n w (fun g=>base<=g) R.s D.T D.d
theorem EJ.at {n:Nat} {w:World} {base:Nat} {R:BP} {D:Rd} (h:EJ n w base R D):Cu n w R D:=⟨Row.of_owns h.1,AQ.at h.2⟩
theorem EJ.own {n:Nat} {w:World} {base:Nat} {R:BP} {D:Rd} (h:EJ n w base R D):Ee n w (fun g=>base<=g/\g<w.heap.size) R D:=by
 have o1:Ac w base 119 6 R.ev D.l.length (Af D.l):= .inl h.1
 have o2:=h.2.2.1
 refine⟨fun s g=>match s with|0=>base<=g/\g<w.heap.size/\wrB R.ev g|1=>(base<=g/\g<w.heap.size)/\¬wrB R.ev g|_=>False, ?_, ?_,⟨o1.mono (Nat.zero_le _),fun g hg=>⟨(o1.lt g hg).1,(o1.lt g hg).2,hg⟩⟩,⟨?_,o2,fun g hg=>⟨⟨h.2.2.2 g hg,(o2.lt g hg).2⟩,As o2 o1 (by decide) hg⟩⟩⟩
 ·intro s t g a b;rcases s with _|_|s<;>rcases t with _|_|t<;>simp only at a b
  ·rfl
  ·exact absurd a.2.2 b.2
  ·exact absurd b.2.2 a.2
  ·rfl
 ·intro s g a;rcases s with _|_|s<;>simp only at a
  ·exact⟨a.1,a.2.1⟩
  ·exact a.1
 ·exact(h.2.1.lt).off (by decide) (by decide) (by decide) (by decide) (o1.mono (Nat.zero_le _))

theorem Qw (n:Nat) (N:BP) (D:Rd) (w:World) (h:Cu n w N D) (hs:D.small n) :
  Calls Tryz.prog 33 #[N.val] w fun e w' =>∃M:BP,e= .returned M.val/\N.like M/\EJ n w' w.heap.size M D/\Below w.heap.size w w' :=by
 obtain⟨kd,fr,tt,te,ix,it,cm,ok,ev,⟨⟨sl,sp,sc,sk,sb⟩,sv⟩⟩:=N
 obtain⟨p1,p2⟩:=h
 obtain⟨hs1,hs2,hs3⟩:=hs
 have b0:Below w.heap.size w (((w.alloc (.cells #[.int .i64 kd, .int .i64 fr, .int .i64 tt, .int .i64 te, .int .i64 ix, .int .i64 it, .int .i64 cm, .bool ok,ev, .bool sl,sp,sc,sk,sb,sv] 84)).alloc (.cells #[.int .i64 0, .int .i64 0, .int .i64 0, .int .i64 0, .int .i64 0, .int .i64 0, .int .i64 0, .bool false, .slice none 0 0, .bool false, .slice none 0 0, .slice none 0 0, .slice none 0 0, .slice none 0 0, .slice none 0 0] 87)).alloc (.cells #[.int .i64 kd, .int .i64 fr, .int .i64 tt, .int .i64 te, .int .i64 ix, .int .i64 it, .int .i64 cm, .bool ok, .slice none 0 0, .bool false, .slice none 0 0, .slice none 0 0, .slice none 0 0, .slice none 0 0, .slice none 0 0] 87)):=(((Below.refl _ _).alloc (Nat.le_refl _) _).alloc (by simp) _).alloc (by simp;omega) _
 have n0:=Ai.step (Ai.step (Ai.start 84 w #[.int .i64 kd, .int .i64 fr, .int .i64 tt, .int .i64 te, .int .i64 ix, .int .i64 it, .int .i64 cm, .bool ok,ev, .bool sl,sp,sc,sk,sb,sv]) (Ae _ (.cells #[.int .i64 0, .int .i64 0, .int .i64 0, .int .i64 0, .int .i64 0, .int .i64 0, .int .i64 0, .bool false, .slice none 0 0, .bool false, .slice none 0 0, .slice none 0 0, .slice none 0 0, .slice none 0 0, .slice none 0 0] 87))) (Ae _ (.cells #[.int .i64 kd, .int .i64 fr, .int .i64 tt, .int .i64 te, .int .i64 ix, .int .i64 it, .int .i64 cm, .bool ok, .slice none 0 0, .bool false, .slice none 0 0, .slice none 0 0, .slice none 0 0, .slice none 0 0, .slice none 0 0] 87))
 have n1:=Ai.step (Ai.start 87 (w.alloc (.cells #[.int .i64 kd, .int .i64 fr, .int .i64 tt, .int .i64 te, .int .i64 ix, .int .i64 it, .int .i64 cm, .bool ok,ev, .bool sl,sp,sc,sk,sb,sv] 84)) #[.int .i64 0, .int .i64 0, .int .i64 0, .int .i64 0, .int .i64 0, .int .i64 0, .int .i64 0, .bool false, .slice none 0 0, .bool false, .slice none 0 0, .slice none 0 0, .slice none 0 0, .slice none 0 0, .slice none 0 0]) (Ae _ (.cells #[.int .i64 kd, .int .i64 fr, .int .i64 tt, .int .i64 te, .int .i64 ix, .int .i64 it, .int .i64 cm, .bool ok, .slice none 0 0, .bool false, .slice none 0 0, .slice none 0 0, .slice none 0 0, .slice none 0 0, .slice none 0 0] 87))
 have n2:=Ai.start 87 ((w.alloc (.cells #[.int .i64 kd, .int .i64 fr, .int .i64 tt, .int .i64 te, .int .i64 ix, .int .i64 it, .int .i64 cm, .bool ok,ev, .bool sl,sp,sc,sk,sb,sv] 84)).alloc (.cells #[.int .i64 0, .int .i64 0, .int .i64 0, .int .i64 0, .int .i64 0, .int .i64 0, .int .i64 0, .bool false, .slice none 0 0, .bool false, .slice none 0 0, .slice none 0 0, .slice none 0 0, .slice none 0 0, .slice none 0 0] 87)) #[.int .i64 kd, .int .i64 fr, .int .i64 tt, .int .i64 te, .int .i64 ix, .int .i64 it, .int .i64 cm, .bool ok, .slice none 0 0, .bool false, .slice none 0 0, .slice none 0 0, .slice none 0 0, .slice none 0 0, .slice none 0 0]
 simp only[World.size_alloc] at n1 n2
 have zz:w.heap.size+3<=(((w.alloc (.cells #[.int .i64 kd, .int .i64 fr, .int .i64 tt, .int .i64 te, .int .i64 ix, .int .i64 it, .int .i64 cm, .bool ok,ev, .bool sl,sp,sc,sk,sb,sv] 84)).alloc (.cells #[.int .i64 0, .int .i64 0, .int .i64 0, .int .i64 0, .int .i64 0, .int .i64 0, .int .i64 0, .bool false, .slice none 0 0, .bool false, .slice none 0 0, .slice none 0 0, .slice none 0 0, .slice none 0 0, .slice none 0 0] 87)).alloc (.cells #[.int .i64 kd, .int .i64 fr, .int .i64 tt, .int .i64 te, .int .i64 ix, .int .i64 it, .int .i64 cm, .bool ok, .slice none 0 0, .bool false, .slice none 0 0, .slice none 0 0, .slice none 0 0, .slice none 0 0, .slice none 0 0] 87)).heap.size:=by simp
 have c0:=n0.cells
 have G:Hid (TR w #[.int .i64 kd, .int .i64 fr, .int .i64 tt, .int .i64 te, .int .i64 ix, .int .i64 it, .int .i64 cm, .bool ok,ev, .bool sl,sp,sc,sk,sb,sv] #[.int .i64 kd, .int .i64 fr, .int .i64 tt, .int .i64 te, .int .i64 ix, .int .i64 it, .int .i64 cm, .bool ok, .slice none 0 0, .bool false, .slice none 0 0, .slice none 0 0, .slice none 0 0, .slice none 0 0, .slice none 0 0] (((w.alloc (.cells #[.int .i64 kd, .int .i64 fr, .int .i64 tt, .int .i64 te, .int .i64 ix, .int .i64 it, .int .i64 cm, .bool ok,ev, .bool sl,sp,sc,sk,sb,sv] 84)).alloc (.cells #[.int .i64 0, .int .i64 0, .int .i64 0, .int .i64 0, .int .i64 0, .int .i64 0, .int .i64 0, .bool false, .slice none 0 0, .bool false, .slice none 0 0, .slice none 0 0, .slice none 0 0, .slice none 0 0, .slice none 0 0] 87)).alloc (.cells #[.int .i64 kd, .int .i64 fr, .int .i64 tt, .int .i64 te, .int .i64 ix, .int .i64 it, .int .i64 cm, .bool ok, .slice none 0 0, .bool false, .slice none 0 0, .slice none 0 0, .slice none 0 0, .slice none 0 0, .slice none 0 0] 87))):=⟨b0,zz,n0,n1,n2⟩
 have L1:Hid (∀u,Below w.heap.size w u->Calls Tryz.prog 79 #[ev] u fun e w' =>∃v',e= .returned v' ∧w'.ownsRow u.heap.size 119 6 v' D.l.length (Af D.l)/\Below u.heap.size u w'):=fun u hu=>Hf ev D.l u (p1.below hu) hs1
 have L2:Hid (∀u,Below w.heap.size w u->Calls Tryz.prog 62 #[.agg #[.bool sl,sp,sc,sk,sb,sv]] u fun e w' =>∃m' :Bv,e= .returned m'.val/\AQ n w' (fun g=>u.heap.size<=g) m' D.T D.d/\Below u.heap.size u w'):=fun u hu=>D6 n ⟨⟨sl,sp,sc,sk,sb⟩,sv⟩ D.T D.d u (p2.below hu) hs2 hs3
 clear p1 p2 hs1 hs2 hs3 b0 n0 n1 n2 zz;show Calls Tryz.prog 33 #[.agg #[.int .i64 kd, .int .i64 fr, .int .i64 tt, .int .i64 te, .int .i64 ix, .int .i64 it, .int .i64 cm, .bool ok,ev, .bool sl,sp,sc,sk,sb,sv]] w _
 go_enter Tryz.func33,Tryz.ntmps33
 go_upto_region 10 with fail
 generalize (((w.alloc (.cells #[.int .i64 kd, .int .i64 fr, .int .i64 tt, .int .i64 te, .int .i64 ix, .int .i64 it, .int .i64 cm, .bool ok,ev, .bool sl,sp,sc,sk,sb,sv] 84)).alloc (.cells #[.int .i64 0, .int .i64 0, .int .i64 0, .int .i64 0, .int .i64 0, .int .i64 0, .int .i64 0, .bool false, .slice none 0 0, .bool false, .slice none 0 0, .slice none 0 0, .slice none 0 0, .slice none 0 0, .slice none 0 0] 87)).alloc (.cells #[.int .i64 kd, .int .i64 fr, .int .i64 tt, .int .i64 te, .int .i64 ix, .int .i64 it, .int .i64 cm, .bool ok, .slice none 0 0, .bool false, .slice none 0 0, .slice none 0 0, .slice none 0 0, .slice none 0 0, .slice none 0 0] 87))=W0 at *
 go_cut [] (fun wx=>∃x0:Option Addr × Nat × Nat,Hid (TR w #[.int .i64 kd, .int .i64 fr, .int .i64 tt, .int .i64 te, .int .i64 ix, .int .i64 it, .int .i64 cm, .bool ok,ev, .bool sl,sp,sc,sk,sb,sv] #[.int .i64 kd, .int .i64 fr, .int .i64 tt, .int .i64 te, .int .i64 ix, .int .i64 it, .int .i64 cm, .bool ok, .slice x0.1 x0.2.1 x0.2.2, .bool false, .slice none 0 0, .slice none 0 0, .slice none 0 0, .slice none 0 0, .slice none 0 0] wx)/\Hid (wx.ownsRow (w.heap.size+3) 119 6 (.slice x0.1 x0.2.1 x0.2.2) D.l.length (Af D.l)))
 case first=>
  as_aux_lemma=>
   go_wp2_with fail;refine(L1.out _ G.out.1).mono ?_
   rintro e w1 ⟨z,rfl,oz,bz⟩
   obtain⟨x0,hz⟩:=(Row.of_owns oz).sl
   subst hz;have Oz:=Aj (A6 (base' :=w.heap.size+3) oz G.out.2.1)
   replace G:=Aj (G.out.step bz)
   clear oz bz c0;have ff1:∀j,w1.frozen? ⟨w.heap.size+1+1,j,none⟩=false:=fun j=>Ab G.out.2.2.2.2
   have dd0:∀j,w1.cell? ⟨w.heap.size+1+1,j,none⟩=(#[.int .i64 kd, .int .i64 fr, .int .i64 tt, .int .i64 te, .int .i64 ix, .int .i64 it, .int .i64 cm, .bool ok, .slice none 0 0, .bool false, .slice none 0 0, .slice none 0 0, .slice none 0 0, .slice none 0 0, .slice none 0 0]:Array Value)[j]? :=fun j=>Aa G.out.2.2.2.2
   have GC:=Aj ((Chg.refl (fun g=>g=w.heap.size+1+1) w1).setAt (w.heap.size+1+1) 8 rfl (.slice x0.1 x0.2.1 x0.2.2))
   have n2:(w1.setCell ⟨w.heap.size+1+1,8,none⟩ (.slice x0.1 x0.2.1 x0.2.2)).heap[w.heap.size+1+1]? =some (.cells #[.int .i64 kd, .int .i64 fr, .int .i64 tt, .int .i64 te, .int .i64 ix, .int .i64 it, .int .i64 cm, .bool ok, .slice x0.1 x0.2.1 x0.2.2, .bool false, .slice none 0 0, .slice none 0 0, .slice none 0 0, .slice none 0 0, .slice none 0 0] 87 (0,0)):=by simpa using(Aq 8 (.slice x0.1 x0.2.1 x0.2.2) G.out.2.2.2.2)
   have G2:=Aj (G.out.sets GC.out n2)
   clear n2;go_wp2_with fail;go_meet;exact⟨x0,G2.out,EF Oz.out GC.out (by omega)⟩
 case rest=>
  clear G  c0;obtain⟨x0,G,O1⟩:=hcut
  go_upto_region 11 with fail
  go_cut [] (fun wx=>∃(l1:Bool) (x1 x2 x3 x4 x5:Option Addr × Nat × Nat),Hid (TR w #[.int .i64 kd, .int .i64 fr, .int .i64 tt, .int .i64 te, .int .i64 ix, .int .i64 it, .int .i64 cm, .bool ok,ev, .bool sl,sp,sc,sk,sb,sv] #[.int .i64 kd, .int .i64 fr, .int .i64 tt, .int .i64 te, .int .i64 ix, .int .i64 it, .int .i64 cm, .bool ok, .slice x0.1 x0.2.1 x0.2.2, .bool l1, .slice x1.1 x1.2.1 x1.2.2, .slice x2.1 x2.2.1 x2.2.2, .slice x3.1 x3.2.1 x3.2.2, .slice x4.1 x4.2.1 x4.2.2, .slice x5.1 x5.2.1 x5.2.2] wx)/\Hid (wx.ownsRow (w.heap.size+3) 119 6 (.slice x0.1 x0.2.1 x0.2.2) D.l.length (Af D.l))/\Hid (AQ n wx (fun g=>w.heap.size+3<=g) ⟨⟨l1, .slice x1.1 x1.2.1 x1.2.2, .slice x2.1 x2.2.1 x2.2.2, .slice x3.1 x3.2.1 x3.2.2, .slice x4.1 x4.2.1 x4.2.2⟩, .slice x5.1 x5.2.1 x5.2.2⟩ D.T D.d))
  case first=>
   as_aux_lemma=>
    have c0:=fun j=>Aa (j:=j) G.out.2.2.1
    go_wp2_with fail;refine(L2.out _ G.out.1).mono ?_
    rintro e w2 ⟨z,rfl,oz,bz⟩
    obtain⟨l1,x1,x2,x3,x4,x5,hz⟩:=AQ.sl oz
    subst hz;have Oz:Hid (AQ n w2 (fun g=>w.heap.size+3<=g) ⟨⟨l1, .slice x1.1 x1.2.1 x1.2.2, .slice x2.1 x2.2.1 x2.2.2, .slice x3.1 x3.2.1 x3.2.2, .slice x4.1 x4.2.1 x4.2.2⟩, .slice x5.1 x5.2.1 x5.2.2⟩ D.T D.d):=AQ.monoF oz (fun g hg=>Nat.le_trans G.out.2.1 hg)
    replace G:=Aj (G.out.step bz)
    replace O1:=Aj (Bc O1.out bz)
    clear oz bz c0;have ff1:∀j,w2.frozen? ⟨w.heap.size+1+1,j,none⟩=false:=fun j=>Ab G.out.2.2.2.2
    have dd0:∀j,w2.cell? ⟨w.heap.size+1+1,j,none⟩=(#[.int .i64 kd, .int .i64 fr, .int .i64 tt, .int .i64 te, .int .i64 ix, .int .i64 it, .int .i64 cm, .bool ok, .slice x0.1 x0.2.1 x0.2.2, .bool false, .slice none 0 0, .slice none 0 0, .slice none 0 0, .slice none 0 0, .slice none 0 0]:Array Value)[j]? :=fun j=>Aa G.out.2.2.2.2
    have GC:=Aj (((((((Chg.refl (fun g=>g=w.heap.size+1+1) w2).setAt (w.heap.size+1+1) 9 rfl (.bool l1)).setAt (w.heap.size+1+1) 10 rfl (.slice x1.1 x1.2.1 x1.2.2)).setAt (w.heap.size+1+1) 11 rfl (.slice x2.1 x2.2.1 x2.2.2)).setAt (w.heap.size+1+1) 12 rfl (.slice x3.1 x3.2.1 x3.2.2)).setAt (w.heap.size+1+1) 13 rfl (.slice x4.1 x4.2.1 x4.2.2)).setAt (w.heap.size+1+1) 14 rfl (.slice x5.1 x5.2.1 x5.2.2))
    have n2:((((((w2.setCell ⟨w.heap.size+1+1,9,none⟩ (.bool l1)).setCell ⟨w.heap.size+1+1,10,none⟩ (.slice x1.1 x1.2.1 x1.2.2)).setCell ⟨w.heap.size+1+1,11,none⟩ (.slice x2.1 x2.2.1 x2.2.2)).setCell ⟨w.heap.size+1+1,12,none⟩ (.slice x3.1 x3.2.1 x3.2.2)).setCell ⟨w.heap.size+1+1,13,none⟩ (.slice x4.1 x4.2.1 x4.2.2)).setCell ⟨w.heap.size+1+1,14,none⟩ (.slice x5.1 x5.2.1 x5.2.2)).heap[w.heap.size+1+1]? =some (.cells #[.int .i64 kd, .int .i64 fr, .int .i64 tt, .int .i64 te, .int .i64 ix, .int .i64 it, .int .i64 cm, .bool ok, .slice x0.1 x0.2.1 x0.2.2, .bool l1, .slice x1.1 x1.2.1 x1.2.2, .slice x2.1 x2.2.1 x2.2.2, .slice x3.1 x3.2.1 x3.2.2, .slice x4.1 x4.2.1 x4.2.2, .slice x5.1 x5.2.1 x5.2.2] 87 (0,0)):=by simpa using(Aq 14 (.slice x5.1 x5.2.1 x5.2.2) (Aq 13 (.slice x4.1 x4.2.1 x4.2.2) (Aq 12 (.slice x3.1 x3.2.1 x3.2.2) (Aq 11 (.slice x2.1 x2.2.1 x2.2.2) (Aq 10 (.slice x1.1 x1.2.1 x1.2.2) (Aq 9 (.bool l1) G.out.2.2.2.2))))))
    have G2:=Aj (G.out.sets GC.out n2)
    clear n2;go_wp2_with fail;go_meet;exact⟨l1,x1,x2,x3,x4,x5,G2.out,EF O1.out GC.out (by omega),AQ.chg Oz.out GC.out (fun g hg e=>by omega)⟩
  case rest=>
   clear G O1;obtain⟨l1,x1,x2,x3,x4,x5,G,O1,O2⟩:=hcut
   have RG:Hid (wc.rangeAt (w.heap.size+1+1) 0 ([.int .i64 kd, .int .i64 fr, .int .i64 tt, .int .i64 te, .int .i64 ix, .int .i64 it, .int .i64 cm, .bool ok, .slice x0.1 x0.2.1 x0.2.2, .bool l1, .slice x1.1 x1.2.1 x1.2.2, .slice x2.1 x2.2.1 x2.2.2, .slice x3.1 x3.2.1 x3.2.2, .slice x4.1 x4.2.1 x4.2.2, .slice x5.1 x5.2.1 x5.2.2]:List Value)):=Ao G.out.2.2.2.2
   have TH:Hid (wc.there (w.heap.size+1) 0 (List.toArray ([.int .i64 kd, .int .i64 fr, .int .i64 tt, .int .i64 te, .int .i64 ix, .int .i64 it, .int .i64 cm, .bool ok, .slice x0.1 x0.2.1 x0.2.2, .bool l1, .slice x1.1 x1.2.1 x1.2.2, .slice x2.1 x2.2.1 x2.2.2, .slice x3.1 x3.2.1 x3.2.2, .slice x4.1 x4.2.1 x4.2.2, .slice x5.1 x5.2.1 x5.2.2]:List Value)).size):=Ba G.out.2.2.2.1 rfl
   have HI:Hid ((Tryz.prog.info? 87).map (·.size)=some (List.length ([.int .i64 kd, .int .i64 fr, .int .i64 tt, .int .i64 te, .int .i64 ix, .int .i64 it, .int .i64 cm, .bool ok, .slice x0.1 x0.2.1 x0.2.2, .bool l1, .slice x1.1 x1.2.1 x1.2.2, .slice x2.1 x2.2.1 x2.2.2, .slice x3.1 x3.2.1 x3.2.2, .slice x4.1 x4.2.1 x4.2.2, .slice x5.1 x5.2.1 x5.2.2]:List Value))):=(show(Tryz.prog.info? 87).map (·.size)=some 15 by kernel_rfl)
   have HJ:Hid ((Tryz.prog.info? 87).map (·.size)=some (List.toArray ([.int .i64 kd, .int .i64 fr, .int .i64 tt, .int .i64 te, .int .i64 ix, .int .i64 it, .int .i64 cm, .bool ok, .slice x0.1 x0.2.1 x0.2.2, .bool l1, .slice x1.1 x1.2.1 x1.2.2, .slice x2.1 x2.2.1 x2.2.2, .slice x3.1 x3.2.1 x3.2.2, .slice x4.1 x4.2.1 x4.2.2, .slice x5.1 x5.2.1 x5.2.2]:List Value)).size):=(show(Tryz.prog.info? 87).map (·.size)=some 15 by kernel_rfl)
   have ONE:Hid ((List.toArray ([.int .i64 kd, .int .i64 fr, .int .i64 tt, .int .i64 te, .int .i64 ix, .int .i64 it, .int .i64 cm, .bool ok, .slice x0.1 x0.2.1 x0.2.2, .bool l1, .slice x1.1 x1.2.1 x1.2.2, .slice x2.1 x2.2.1 x2.2.2, .slice x3.1 x3.2.1 x3.2.2, .slice x4.1 x4.2.1 x4.2.2, .slice x5.1 x5.2.1 x5.2.2]:List Value)).all (·.oneCell')=true):=by show _=_;simp[Value.oneCell']
   have GC:Hid (Chg (fun g=>g=w.heap.size+1) wc (wc.setCells (w.heap.size+1) 0 ([.int .i64 kd, .int .i64 fr, .int .i64 tt, .int .i64 te, .int .i64 ix, .int .i64 it, .int .i64 cm, .bool ok, .slice x0.1 x0.2.1 x0.2.2, .bool l1, .slice x1.1 x1.2.1 x1.2.2, .slice x2.1 x2.2.1 x2.2.2, .slice x3.1 x3.2.1 x3.2.2, .slice x4.1 x4.2.1 x4.2.2, .slice x5.1 x5.2.1 x5.2.2]:List Value))):=Chg.setCells (F:=fun g=>g=w.heap.size+1) (g:=w.heap.size+1) (fun _=>rfl) ([.int .i64 kd, .int .i64 fr, .int .i64 tt, .int .i64 te, .int .i64 ix, .int .i64 it, .int .i64 cm, .bool ok, .slice x0.1 x0.2.1 x0.2.2, .bool l1, .slice x1.1 x1.2.1 x1.2.2, .slice x2.1 x2.2.1 x2.2.2, .slice x3.1 x3.2.1 x3.2.2, .slice x4.1 x4.2.1 x4.2.2, .slice x5.1 x5.2.1 x5.2.2]:List Value) 0 wc (Chg.refl _ _)
   have X1:Hid ((wc.setCells (w.heap.size+1) 0 ([.int .i64 kd, .int .i64 fr, .int .i64 tt, .int .i64 te, .int .i64 ix, .int .i64 it, .int .i64 cm, .bool ok, .slice x0.1 x0.2.1 x0.2.2, .bool l1, .slice x1.1 x1.2.1 x1.2.2, .slice x2.1 x2.2.1 x2.2.2, .slice x3.1 x3.2.1 x3.2.2, .slice x4.1 x4.2.1 x4.2.2, .slice x5.1 x5.2.1 x5.2.2]:List Value)).heap[w.heap.size+1]? =some (.cells (List.toArray ([.int .i64 kd, .int .i64 fr, .int .i64 tt, .int .i64 te, .int .i64 ix, .int .i64 it, .int .i64 cm, .bool ok, .slice x0.1 x0.2.1 x0.2.2, .bool l1, .slice x1.1 x1.2.1 x1.2.2, .slice x2.1 x2.2.1 x2.2.2, .slice x3.1 x3.2.1 x3.2.2, .slice x4.1 x4.2.1 x4.2.2, .slice x5.1 x5.2.1 x5.2.2]:List Value)) 87 (0,0))):=A7 G.out.2.2.2.1 ([.int .i64 kd, .int .i64 fr, .int .i64 tt, .int .i64 te, .int .i64 ix, .int .i64 it, .int .i64 cm, .bool ok, .slice x0.1 x0.2.1 x0.2.2, .bool l1, .slice x1.1 x1.2.1 x1.2.2, .slice x2.1 x2.2.1 x2.2.2, .slice x3.1 x3.2.1 x3.2.2, .slice x4.1 x4.2.1 x4.2.2, .slice x5.1 x5.2.1 x5.2.2]:List Value) rfl
   have B2:=Aj (G.out.1.trans (GC.out.below (fun g _ hg=>by omega) G.out.1.size))
   have MV:Hid (Value.agg (List.toArray ([.int .i64 kd, .int .i64 fr, .int .i64 tt, .int .i64 te, .int .i64 ix, .int .i64 it, .int .i64 cm, .bool ok, .slice x0.1 x0.2.1 x0.2.2, .bool l1, .slice x1.1 x1.2.1 x1.2.2, .slice x2.1 x2.2.1 x2.2.2, .slice x3.1 x3.2.1 x3.2.2, .slice x4.1 x4.2.1 x4.2.2, .slice x5.1 x5.2.1 x5.2.2]:List Value))=BP.val ⟨kd,fr,tt,te,ix,it,cm,ok, .slice x0.1 x0.2.1 x0.2.2,⟨⟨l1, .slice x1.1 x1.2.1 x1.2.2, .slice x2.1 x2.2.1 x2.2.2, .slice x3.1 x3.2.1 x3.2.2, .slice x4.1 x4.2.1 x4.2.2⟩, .slice x5.1 x5.2.1 x5.2.2⟩⟩):=by show _=_;rfl
   replace O1:=Aj (A6 (base' :=w.heap.size) (EF O1.out GC.out (by omega)) (by omega))
   replace O2:=Aj (AQ.monoF (G:=fun g=>w.heap.size<=g) (AQ.chg O2.out GC.out (fun g hg e=>by omega)) (fun g hg=>by omega))
   have FIN:Hid (∃M:BP,Value.agg (List.toArray ([.int .i64 kd, .int .i64 fr, .int .i64 tt, .int .i64 te, .int .i64 ix, .int .i64 it, .int .i64 cm, .bool ok, .slice x0.1 x0.2.1 x0.2.2, .bool l1, .slice x1.1 x1.2.1 x1.2.2, .slice x2.1 x2.2.1 x2.2.2, .slice x3.1 x3.2.1 x3.2.2, .slice x4.1 x4.2.1 x4.2.2, .slice x5.1 x5.2.1 x5.2.2]:List Value))=M.val/\BP.like ⟨kd,fr,tt,te,ix,it,cm,ok,ev,⟨⟨sl,sp,sc,sk,sb⟩,sv⟩⟩ M/\EJ n (wc.setCells (w.heap.size+1) 0 ([.int .i64 kd, .int .i64 fr, .int .i64 tt, .int .i64 te, .int .i64 ix, .int .i64 it, .int .i64 cm, .bool ok, .slice x0.1 x0.2.1 x0.2.2, .bool l1, .slice x1.1 x1.2.1 x1.2.2, .slice x2.1 x2.2.1 x2.2.2, .slice x3.1 x3.2.1 x3.2.2, .slice x4.1 x4.2.1 x4.2.2, .slice x5.1 x5.2.1 x5.2.2]:List Value)) w.heap.size M D/\Below w.heap.size w (wc.setCells (w.heap.size+1) 0 ([.int .i64 kd, .int .i64 fr, .int .i64 tt, .int .i64 te, .int .i64 ix, .int .i64 it, .int .i64 cm, .bool ok, .slice x0.1 x0.2.1 x0.2.2, .bool l1, .slice x1.1 x1.2.1 x1.2.2, .slice x2.1 x2.2.1 x2.2.2, .slice x3.1 x3.2.1 x3.2.2, .slice x4.1 x4.2.1 x4.2.2, .slice x5.1 x5.2.1 x5.2.2]:List Value))):=⟨_,MV.out,⟨rfl,rfl,rfl,rfl,rfl,rfl,rfl,rfl⟩,⟨O1.out,O2.out⟩,B2.out⟩
   clear GC G B2 MV O1 O2;generalize ([.int .i64 kd, .int .i64 fr, .int .i64 tt, .int .i64 te, .int .i64 ix, .int .i64 it, .int .i64 cm, .bool ok, .slice x0.1 x0.2.1 x0.2.2, .bool l1, .slice x1.1 x1.2.1 x1.2.2, .slice x2.1 x2.2.1 x2.2.2, .slice x3.1 x3.2.1 x3.2.2, .slice x4.1 x4.2.1 x4.2.2, .slice x5.1 x5.2.1 x5.2.2]:List Value)=cs at *
   go_wp2_with (first|(refine wpList_load_mid rfl 87 _ rfl (w.heap.size+1+1) 0 rfl cs _ RG.out Tryz.underlying87 rfl HI.out ?_)|(refine wpList_store_mid rfl 87 _ _ rfl (w.heap.size+1) 0 cs.toArray rfl rfl TH.out HJ.out ONE.out ?_))
   generalize wc.setCells (w.heap.size+1) 0 cs=WF at *
   exact⟨rfl,_,results_cell_row Tryz.results33 _ WF (w.heap.size+1) 87 cs.toArray (0,0) _ rfl X1.out Tryz.underlying87 rfl HJ.out,(by obtain⟨M,e,r⟩:=FIN.out;exact⟨M,by rw[e],r⟩)⟩
end
end Go.Proofs.YtkcaelfkcepdkaaGreat
