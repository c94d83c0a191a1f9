/-
  What becomes of a tree in memory of its own when one of its rows is appended to, or written.
  More functions that are entered.
  What shrunk messages do, key by key; plain mathematics.
  Trees side by side: each is right in its place, and tells of each key of its place what it should; plain mathematics.
-/
import Derived.Test.YtnakaabnjelffaaGreatOfInject24
import Derived.Test.YtnakaabnjelffaaGreatOfInject26
import Derived.Test.YtnakaabnjelffaaGreatOfInject9
namespace Go.Proofs.YtnakaabnjelffaaGreat
set_option maxRecDepth 100000
set_option maxHeartbeats 8000000
section
open Go.RowKit

theorem As.block {w:World} {base e size n:Nat} {v:Value} {xs:List Value} (h:As w base e size v n xs):∀g,wrB v g->∃cur,w.heap[g]? =some (.cells cur e (0,0)):=by
 rintro g ⟨k,cap,rfl,hc⟩
 rcases h with h|⟨_,_,g',hg⟩
 ·obtain⟨_,⟨h1,_⟩|⟨g',cap',cur,h1,hg,hh,_⟩⟩:=h
  ·simp at h1
  ·simp at h1
   rw[←h1.1] at hh
   exact⟨cur,hh⟩
 ·simp at hg
  omega
theorem As.apart {w:World} {b1 b2 e1 e2 s1 s2 n1 n2:Nat} {v1 v2:Value} {x1 x2:List Value} (h1:As w b1 e1 s1 v1 n1 x1) (h2:As w b2 e2 s2 v2 n2 x2) (he:e1≠e2):∀g,wrB v1 g->¬wrB v2 g:=by
 intro g k1 k2;obtain⟨c1,j1⟩:=h1.block g k1
 obtain⟨c2,j2⟩:=h2.block g k2
 rw[j1] at j2
 simp at j2
 exact he j2.2
theorem As.store {w:World} {base e size n g cap:Nat} {xs:List Value} (h:As w base e size (.slice (some ⟨g,0,none⟩) n cap) n xs) (hc:0<cap) (i:Nat) (u:Value):As (w.setCell ⟨g,i,none⟩ u) base e size (.slice (some ⟨g,0,none⟩) n cap) n (xs.set i u):=by
 rcases h with h|⟨_,_,g',hg⟩
 ·obtain⟨hl,⟨h1,_⟩|⟨g',cap',cur,h1,hg,hh,hn,hcap,hsz,htake⟩⟩:=h
  ·simp at h1
  ·simp at h1
   obtain⟨rfl,rfl⟩:=h1
   refine .inl ⟨by simpa using hl, .inr ⟨g,cap,cur.setIfInBounds i u,rfl,hg,heap_setCell_same w g i cur e u hh,hn,hcap,by simpa using hsz, ?_⟩⟩
   rw[Array.toList_setIfInBounds,List.take_set,htake]
 ·simp at hg
  omega
theorem As.cell {w:World} {base e size n g cap:Nat} {xs:List Value} (h:As w base e size (.slice (some ⟨g,0,none⟩) n cap) n xs) (i:Nat) (u:Value) (hu:xs[i]? =some u):w.cell? ⟨g,i,none⟩=some u/\w.frozen? ⟨g,i,none⟩=false:=by
 rcases h with h|⟨_,h2,_⟩
 ·obtain⟨hl,⟨h1,_⟩|⟨g',cap',cur,h1,hg,hh,hn,hcap,hsz,htake⟩⟩:=h
  ·simp at h1
  ·simp at h1
   obtain⟨rfl,rfl⟩:=h1
   refine⟨?_,frozen_of_row w g i cur e hh⟩
   rw[cell_of_row w g i cur e (0,0) hh, ← hu, ← htake, ← Array.getElem?_toList]
   have hi:i<xs.length:=(List.getElem?_eq_some_iff.1 hu).1
   rw[List.getElem?_take_of_lt (by omega)]
 ·rw[h2] at hu
  simp at hu
theorem As.pos {w:World} {base e size n:Nat} {v:Value} {xs:List Value} (h:As w base e size v n xs) (hn:0<n):∃g cap,v= .slice (some ⟨g,0,none⟩) n cap/\0<cap/\n<=cap:=by
 rcases h with h|⟨h,_⟩
 ·obtain⟨g,cap,h1,h2,h3⟩:=h.form hn
  refine⟨g,cap,h1, ?_, ?_⟩
  ·obtain⟨_,⟨k1,_⟩|⟨g',cap',cur,k1,_,_,k4,_⟩⟩:=h
   ·rw[h1] at k1;simp at k1
   ·rw[h1] at k1;simp at k1;omega
  ·obtain⟨_,⟨k1,_⟩|⟨g',cap',cur,k1,_,_,k4,_⟩⟩:=h
   ·rw[h1] at k1;simp at k1
   ·rw[h1] at k1;simp at k1;omega
 ·omega

variable {n:Nat} {w w' :World} {F:Nat->Prop} {lf:Bool} {p c k b:Value} {T:Tr}

theorem AD.rows {P:Nat->Prop} (h:AD (n+1) w F ⟨lf,p,c,k,b⟩ T) (hc:Chg P w w') :
  ((∀g,wrB p g->¬P g)->Aj w' F p T.pairs.length (Au T.pairs))/\((∀g,wrB c g->¬P g)->Aj w' F c T.cuts.length (Ab T.cuts))/\((∀g,wrB b g->¬P g)->Aj w' F b T.buf.length (Al T.buf))∧
  ((∀g,P g->(wrB p g∨wrB c g∨wrB b g∨wrB k g)∨¬F g)->(∀g,wrB k g->¬P g)->Ad n w' F k T.kids):=by
 obtain⟨h1,h2,h3,h4,h5,xs,K,k1,k2,k3,k4,k5⟩:=h
 simp only at h1 h2 h3 h4 h5 k2 k4
 refine⟨fun hp=>((h2.chg hc hp).rowF).mono (fun g hg=>h5 g (.inl hg)),fun hp=>((h3.chg hc hp).rowF).mono (fun g hg=>h5 g (.inr (.inl hg))),fun hp=>((h4.chg hc hp).rowF).mono (fun g hg=>h5 g (.inr (.inr (.inl hg)))),fun hP hp=>⟨xs,k1,((k2.chg hc hp).rowF).mono (fun g hg=>h5 g (.inr (.inr (.inr hg)))),fun i hi=> ?_⟩⟩
 refine((k3 i hi).treeF.chg hc (fun g hg hPg=> ?_)).mono (fun g hg=>(k4 i g hi hg).1)
 rcases hP g hPg with h|h
 ·exact(k4 i g hi hg).2 h
 ·exact h (k4 i g hi hg).1

theorem XW {m:Int × Int × Int} {b' :Value} (h:AD (n+1) w F ⟨lf,p,c,k,b⟩ T) (ha:FQ w 0 31 3 b (T.buf.length+1) (Al T.buf++Al [m]) b' w') :
  Aq (n+1) w' (fun g=>F g∨w.heap.size<=g) ⟨lf,p,c,k,b'⟩ { T with buf:=T.buf++[m] }:=by
 obtain⟨r1,r2,_,r4⟩:=h.rows ha.2.1
 obtain⟨h1,h2,h3,h4,h5,xs,K,k1,k2,k3,k4,k5⟩:=h
 refine Aq.mk h1 ((r1 (h2.apart h4 (by decide))).mono (fun g hg=> .inl hg)) ((r2 (h3.apart h4 (by decide))).mono (fun g hg=> .inl hg)) ?_ ((r4 (fun g hg=> .inl (.inr (.inr (.inl hg)))) (k2.apart h4 (by decide))).mono (fun g hg=> .inl hg))
 have:=ha.1.rowF.mono (G:=fun g=>F g∨w.heap.size<=g) (fun g hg=>(ha.2.2.2 g hg).imp (fun h=>h5 g (.inr (.inr (.inl h)))) id)
 rw[←Cc] at this
 simpa using this
theorem UR {m:Int × Int} {p' :Value} (h:AD (n+1) w F ⟨lf,p,c,k,b⟩ T) (ha:FQ w 0 63 2 p (T.pairs.length+1) (Au T.pairs++Au [m]) p' w') :
  Aq (n+1) w' (fun g=>F g∨w.heap.size<=g) ⟨lf,p',c,k,b⟩ { T with pairs:=T.pairs++[m] }:=by
 obtain⟨_,r2,r3,r4⟩:=h.rows ha.2.1
 obtain⟨h1,h2,h3,h4,h5,xs,K,k1,k2,k3,k4,k5⟩:=h
 refine Aq.mk h1 ?_ ((r2 (h3.apart h2 (by decide))).mono (fun g hg=> .inl hg)) ((r3 (h4.apart h2 (by decide))).mono (fun g hg=> .inl hg)) ((r4 (fun g hg=> .inl (.inl hg)) (k2.apart h2 (by decide))).mono (fun g hg=> .inl hg))
 have:=ha.1.rowF.mono (G:=fun g=>F g∨w.heap.size<=g) (fun g hg=>(ha.2.2.2 g hg).imp (fun h=>h5 g (.inl h)) id)
 rw[←Hq] at this
 simpa using this
theorem V6 {g cap m:Nat} (hc:0<cap):∀g',wrB (.slice (some ⟨g,0,none⟩) m cap) g' ↔g' =g:=fun g' =>⟨fun ⟨_,_,h,_⟩=>by simp at h;exact h.1.symm,fun h=>h ▸ ⟨_,_,rfl,hc⟩⟩
theorem Xo {g cap:Nat} (x:Int) (h:AD (n+1) w F ⟨lf,p, .slice (some ⟨g,0,none⟩) T.cuts.length cap,k,b⟩ T) (hcap:0<cap) :
  Aq (n+1) (w.setCell ⟨g,0,none⟩ (.int .i64 x)) F ⟨lf,p, .slice (some ⟨g,0,none⟩) T.cuts.length cap,k,b⟩ { T with cuts:=T.cuts.set 0 x }:=by
 have hc:=At w g 0 (.int .i64 x)
 obtain⟨r1,_,r3,r4⟩:=h.rows hc
 obtain⟨h1,h2,h3,h4,h5,xs,K,k1,k2,k3,k4,k5⟩:=h
 have hw:∀g',g' =g->wrB (.slice (some ⟨g,0,none⟩) T.cuts.length cap) g' :=fun g' e=>(V6 hcap g').2 e
 refine Aq.mk h1 (r1 (fun g' hg e=>h2.apart h3 (by decide) g' hg (hw g' e))) ?_ (r3 (fun g' hg e=>h4.apart h3 (by decide) g' hg (hw g' e))) (r4 (fun g' e=> .inl (.inr (.inl (hw g' e)))) (fun g' hg e=>k2.apart h3 (by decide) g' hg (hw g' e)))
 have:=(h3.store hcap 0 (.int .i64 x)).rowF.mono (G:=F) (fun g' hg=>h5 g' (.inr (.inl hg)))
 rw[show(Ab T.cuts).set 0 (.int .i64 x)=Ab (T.cuts.set 0 x) by simp[Ab,List.map_set]] at this
 simpa using this
theorem Tp {g cap:Nat} {y:TV} {U:Tr} {F' :Nat->Prop} (h:AD (n+1) w F ⟨lf,p,c, .slice (some ⟨g,0,none⟩) T.kids.length cap,b⟩ T) (hcap:0<cap) (hk:0<T.kids.length) (hy:Aq n w F' y U) (hF:¬F' g) :
  Aq (n+1) (set5 w g (.bool y.lf) y.p y.c y.k y.b) (fun g=>F g∨F' g) ⟨lf,p,c, .slice (some ⟨g,0,none⟩) T.kids.length cap,b⟩ { T with kids:=T.kids.set 0 U }:=by
 have hc:=Ev w g (.bool y.lf) y.p y.c y.k y.b
 obtain⟨r1,r2,r3,_⟩:=h.rows hc
 obtain⟨h1,h2,h3,h4,h5,xs,K,k1,k2,k3,k4,k5⟩:=h
 simp only at h1 h2 h3 h4 h5 k2 k4
 have hw:∀g',g' =g->wrB (.slice (some ⟨g,0,none⟩) T.kids.length cap) g' :=fun g' e=>(V6 hcap g').2 e
 rw[k1] at k2
 refine Aq.mk h1 ((r1 (fun g' hg e=>h2.apart k2 (by decide) g' hg (hw g' e))).mono (fun g hg=> .inl hg)) ((r2 (fun g' hg e=>h3.apart k2 (by decide) g' hg (hw g' e))).mono (fun g hg=> .inl hg)) ((r3 (fun g' hg e=>h4.apart k2 (by decide) g' hg (hw g' e))).mono (fun g hg=> .inl hg)) ⟨xs.set 0 y,by simp[k1], ?_,fun i hi=> ?_⟩
 ·have:=(((((k2.store hcap 0 (.bool y.lf)).store hcap 1 y.p).store hcap 2 y.c).store hcap 3 y.k).store hcap 4 y.b).rowF.mono (G:=fun g=>F g∨F' g) (fun g' hg=> .inl (h5 g' (.inr (.inr (.inr hg)))))
  have e:=Vp xs y 0 (by omega)
  simp only[Nat.zero_mul,Nat.zero_add] at e
  rw[e] at this
  simpa[k1] using this
 ·rw[List.length_set] at hi
  rcases Nat.eq_zero_or_pos i with h0|h0
  ·subst h0;have e1:Ay (xs.set 0 y) 0=y:=by simp[Ay,List.getD,hi]
   have e2:(T.kids.set 0 U).getD 0 Ah=U:=by simp[List.getD,hk]
   rw[e1,e2]
   exact(hy.chg hc (fun g' hg e=>hF (e ▸ hg))).mono (fun g hg=> .inr hg)
  ·have e1:Ay (xs.set 0 y) i=Ay xs i:=by simp[Ay,List.getD,List.getElem?_set_ne (by omega:(0:Nat)≠i)]
   have e2:(T.kids.set 0 U).getD i Ah=T.kids.getD i Ah:=by simp[List.getD,List.getElem?_set_ne (by omega:(0:Nat)≠i)]
   rw[e1,e2]
   refine((k3 i hi).treeF.chg hc (fun g' hg e=> ?_)).mono (fun g hg=> .inl (k4 i g hi hg).1)
   exact(k4 i g' hi hg).2 (.inr (.inr (.inr (hw g' e))))
theorem Wf (h:AD (n+1) w F ⟨lf,p,c,k,b⟩ T) (hc:Chg (fun g=>¬F g) w w'):Aq (n+1) w' F ⟨!lf,p,c,k,b⟩ { T with leaf:= !T.leaf }:=by
 obtain⟨h1,h2,h3,h4,h5⟩:=(h.treeF.chg hc (fun g hg k=>k hg)).parts
 simp only at h1 h2 h3 h4 h5
 exact Aq.mk (by simp[h1]) h2 h3 h4 h5

theorem VO (f:Tr->Nat) (U:Tr):∀l:List Tr,((l.set 0 U).map f).sum<=(l.map f).sum+f U
 |[]=>by simp
 |t::l=>by simp;omega

theorem Wy (n:Nat) (T:Tr) (m:Int × Int × Int):Az (n+1) { T with buf:=T.buf++[m] }=Az (n+1) T+1:=by
 simp only[Az,List.length_append,List.length_cons,List.length_nil];omega
theorem SG (n:Nat) (T:Tr) (m:Int × Int):Az (n+1) { T with pairs:=T.pairs++[m] }=Az (n+1) T+1:=by
 simp only[Az,List.length_append,List.length_cons,List.length_nil];omega
theorem WI (n:Nat) (T:Tr) (x:Int):Az (n+1) { T with cuts:=T.cuts.set 0 x }=Az (n+1) T:=by
 simp only[Az,List.length_set]
theorem OE (n:Nat) (T U:Tr):Az (n+1) { T with kids:=T.kids.set 0 U }<=Az (n+1) T+Az n U:=by
 have:=VO (Az n) U T.kids
 simp only[Az,List.length_set]
 omega
end
section
open Go.RowKit

theorem Yh (args:Array Value) (w:World):(callFunc 42 args).run Tryz.prog w= .ok (.enter 42 args) w:=by go_simp
theorem YL (args:Array Value) (w:World):(callFunc 20 args).run Tryz.prog w= .ok (.enter 20 args) w:=by go_simp
theorem YD (args:Array Value) (w:World):(callFunc 43 args).run Tryz.prog w= .ok (.enter 43 args) w:=by go_simp
end
section
def Fh (k:Int) (s:Int × Bool) (m:Int × Int × Int):Int × Bool:=
 if m.2.1=k then (if m.1=1 then (m.2.2,true) else if m.1=2 then (0,false) else if m.1=3 then (Bg (s.1+m.2.2),true) else s) else s
theorem Fr {k:Int} {s:Int × Bool} {m:Int × Int × Int} (h:m.2.1≠k):Fh k s m=s:=by rw[Fh,if_neg h]
theorem Hw {k:Int} (l:ML) (h:∀m∈l,m.2.1≠k) (s:Int × Bool):l.foldl (Fh k) s=s:=by
 induction l generalizing s with
 |nil=>rfl
 |cons m l ih=>rw[List.foldl_cons,Fr (h m (by simp))];exact ih (fun q hq=>h q (by simp[hq])) s
theorem Pw {k:Int} (l:ML) (h:Em l k=true) (s s' :Int × Bool):(BS l).foldl (Fh k) s=(BS l).foldl (Fh k) s' :=by
 induction l generalizing s s' with
 |nil=>simp[Em] at h
 |cons m l ih=>
  rw[Em,List.any_cons, ← Em,Bool.or_eq_true] at h
  by_cases h1:okM m=true
  ·rw[BS,List.filter_cons_of_pos h1,List.foldl_cons,List.foldl_cons]
   rcases h with h|h
   ·simp only[h1,Bool.true_and,Bool.and_eq_true,beq_iff_eq,GP,Bool.or_eq_true] at h
    have e:Fh k s m=Fh k s' m:=by
     unfold Fh;rw[if_pos h.1,if_pos h.1]
     rcases h.2 with h2|h2
     ·rw[if_pos h2,if_pos h2]
     ·have h3:m.1≠1:=by omega
      rw[if_neg h3,if_neg h3,if_pos h2,if_pos h2]
    rw[e]
   ·exact ih h _ _
  ·rw[BS,List.filter_cons_of_neg h1]
   rcases h with h|h
   ·simp[h1] at h
   ·exact ih h _ _
theorem Xe (k:Int) (l:ML) (s:Int × Bool):(DB l).foldl (Fh k) s=(BS l).foldl (Fh k) s:=by
 induction l generalizing s with
 |nil=>rfl
 |cons m l ih=>
  rw[DB]
  by_cases h1:okM m=true
  ·have e:BS (m::l)=m::BS l:=by rw[BS,List.filter_cons_of_pos h1];rfl
   rw[e,List.foldl_cons]
   by_cases h2:m.1=4
   ·rw[if_neg (by simp[h2]),ih]
    have:Fh k s m=s:=by simp[Fh,h2]
    rw[this]
   ·cases hb:Em l m.2.1
    ·rw[if_pos ⟨h1,h2,rfl⟩,List.foldl_cons,ih]
    ·rw[if_neg (by simp),ih]
     by_cases hk:m.2.1=k
     ·subst hk;exact Pw l hb _ _
     ·rw[Fr hk]
  ·have e:BS (m::l)=BS l:=by rw[BS,List.filter_cons_of_neg h1];rfl
   rw[if_neg (by simp[h1]),e,ih]

def IC (A:ML):Prop:=A.Pairwise fun a b=>a.2.1=b.2.1->a.1≠1/\GP b=false
theorem Mv {A:ML} {m:Int × Int × Int} (h:CY A m=true):m.1=3/\∃n,AU A m.2.1=(n:Nat)/\n<A.length/\mK A n=m.2.1/\mO A n=1:=by
 simp only[CY,Bool.and_eq_true,decide_eq_true_eq,beq_iff_eq] at h
 obtain⟨h0,h1,h3⟩:=h
 refine⟨h3, ?_⟩
 rcases Dv A m.2.1 with⟨q,_⟩|⟨n,q1,q2,q3,q4⟩
 ·omega
 ·exact⟨n,q1,q2,q3,by rw[q1] at h1;simpa using h1⟩
theorem IC.parts {X Y:ML} {p:Int × Int × Int} (h:IC (X++p::Y)):IC X/\(∀b∈Y,p.2.1=b.2.1->p.1≠1/\GP b=false)/\IC Y/\(∀a∈X,(a.2.1=p.2.1->a.1≠1/\GP p=false)/\∀b∈Y,a.2.1=b.2.1->a.1≠1/\GP b=false):=by
 obtain⟨h1,h2,h3⟩:=List.pairwise_append.1 h
 obtain⟨h4,h5⟩:=List.pairwise_cons.1 h2
 exact⟨h1,h4,h5,fun a ha=>⟨h3 a ha p (by simp),fun b hb=>h3 a ha b (by simp[hb])⟩⟩
theorem IC.mk {X Y:ML} {p:Int × Int × Int} (h1:IC X) (h4:∀b∈Y,p.2.1=b.2.1->p.1≠1/\GP b=false) (h5:IC Y) (h3:∀a∈X,(a.2.1=p.2.1->a.1≠1/\GP p=false)/\∀b∈Y,a.2.1=b.2.1->a.1≠1/\GP b=false):IC (X++p::Y):=by
 refine List.pairwise_append.2 ⟨h1,List.pairwise_cons.2 ⟨h4,h5⟩,fun a ha b hb=> ?_⟩
 rcases List.mem_cons.1 hb with rfl|hb
 ·exact(h3 a ha).1
 ·exact(h3 a ha).2 b hb
theorem Rf (A:ML) {n:Nat} (h:n<A.length):A=A.take n++(mO A n,mK A n,mV A n)::A.drop (n+1):=by
 have e:=List.drop_eq_getElem_cons h
 rw[DV A n h] at e
 rw[←e,List.take_append_drop]
theorem Qm {A:ML} {m:Int × Int × Int} {n:Nat} (hj:CY A m=true) (hf:AU A m.2.1=(n:Nat)) (hn:n<A.length) (hk:mK A n=m.2.1) (ho:mO A n=1) :
  BH A m=A.take n++(1,m.2.1,Bg (mV A n+m.2.2))::A.drop (n+1):=by
 rw[BH,if_pos hj,hf,Int.toNat_natCast,ho,hk,List.set_eq_take_append_cons_drop,if_pos hn]
theorem Vt {A:ML} (hA:IC A) {m:Int × Int × Int} (hm:okN m) (hr:GP m=true->∀a∈A,a.2.1≠m.2.1):IC (BH A m):=by
 cases hj:CY A m
 ·have e:BH A m=A++[m]:=by rw[BH,hj];rfl
  rw[e]
  refine IC.mk hA (fun b hb=>by simp at hb) List.Pairwise.nil (fun a ha=>⟨fun he=> ?_,fun b hb=>by simp at hb⟩)
  have hnr:GP m=false:=by
   cases hb:GP m
   ·rfl
   ·exact absurd he (hr hb a ha)
  refine⟨fun h1=> ?_,hnr⟩
  have h3:m.1=3:=by
   have:=(CG hm.1).1
   have h4:=hm.2
   simp only[GP,Bool.or_eq_false_iff,beq_eq_false_iff_ne] at hnr
   have:=hnr.1;have:=hnr.2
   omega
  rcases Dv A m.2.1 with⟨_,q⟩|⟨n,q1,q2,q3,q4⟩
  ·exact q a ha he
  ·have ho:mO A n≠1:=fun ho=>by
    have:CY A m=true:=by simp[CY,q1,ho,h3]
    rw[hj] at this;cases this
   obtain⟨i,hi,rfl⟩:=List.getElem_of_mem ha
   rw[DV A i hi] at he h1
   simp only at he h1
   have hin:i≠n:=fun e=>by subst e;exact ho h1
   have hlt:¬i<n:=fun hlt=>q4 i hlt he
   have:=List.pairwise_iff_getElem.1 hA n i q2 hi (by omega)
   rw[DV A n q2,DV A i hi] at this
   have:=(this (by simp only;omega)).2
   simp[GP,h1] at this
 ·obtain⟨h3,n,q1,q2,q3,q4⟩:=Mv hj
  rw[Qm hj q1 q2 q3 q4]
  have hs:=Rf A q2
  rw[q3,q4] at hs
  rw[hs] at hA
  obtain⟨g1,g2,g3,g4⟩:=hA.parts
  exact IC.mk g1 g2 g3 g4
theorem WZ {A:ML} (hA:IC A) (m:Int × Int × Int) (k:Int) (s:Int × Bool):(BH A m).foldl (Fh k) s=Fh k (A.foldl (Fh k) s) m:=by
 cases hj:CY A m
 ·have e:BH A m=A++[m]:=by rw[BH,hj];rfl
  rw[e,List.foldl_append];rfl
 ·obtain⟨h3,n,q1,q2,q3,q4⟩:=Mv hj
  rw[Qm hj q1 q2 q3 q4]
  have hs:=Rf A q2
  rw[q3,q4] at hs
  have hA' :=hA
  rw[hs] at hA'
  obtain⟨_,g2,_,_⟩:=hA'.parts
  have hY:∀b∈A.drop (n+1),b.2.1≠m.2.1:=fun b hb he=>(g2 b hb he.symm).1 rfl
  have hA2:A.foldl (Fh k) s=(A.drop (n+1)).foldl (Fh k) (Fh k ((A.take n).foldl (Fh k) s) (1,m.2.1,mV A n)):=by
   conv=>lhs;rw[hs]
   rw[List.foldl_append,List.foldl_cons]
  rw[hA2,List.foldl_append,List.foldl_cons]
  by_cases hk:m.2.1=k
  ·subst hk;rw[Hw _ hY,Hw _ hY]
   simp[Fh,h3]
  ·rw[Fr (m:=(1,m.2.1,Bg (mV A n+m.2.2))) hk,Fr (m:=(1,m.2.1,mV A n)) hk,Fr (m:=m) hk]
theorem Vy (l:ML) (hl:Wu l) (ho:∀m∈l,okN m) (A:ML) (h:IC A) (hA:∀m∈l,GP m=true->∀a∈A,a.2.1≠m.2.1) (k:Int) (s:Int × Bool) :
  IC (l.foldl BH A)/\(l.foldl BH A).foldl (Fh k) s=l.foldl (Fh k) (A.foldl (Fh k) s):=by
 induction l generalizing A with
 |nil=>exact⟨h,rfl⟩
 |cons m l ih=>
  obtain⟨hl1,hl2⟩:=List.pairwise_cons.1 hl
  rw[List.foldl_cons,List.foldl_cons, ← WZ h]
  refine ih hl2 (fun q hq=>ho q (by simp[hq])) (BH A m) (Vt h (ho m (by simp)) (hA m (by simp))) (fun q hq hr=> ?_)
  refine KU A m q.2.1 (hA q (by simp[hq]) hr) (fun he=> ?_)
  have:=hl1 q hq he
  rw[hr] at this;cases this
theorem QZ (ms:ML) (k:Int) (s:Int × Bool):IC (AC ms)/\(AC ms).foldl (Fh k) s=(BS ms).foldl (Fh k) s:=by
 have:=Vy (DB ms) (Nq ms) (fun m hm=>(JS ms m hm).2) [] List.Pairwise.nil (fun m _ _ a ha=>by simp at ha) k s
 rw[←Xe]
 exact this
theorem Rc (ms:ML):BS (AC ms)=AC ms:=List.filter_eq_self.2 (fun a ha=>(Na ms a ha).1)
theorem Uk (k:Int) (ms:ML) (s:Int × Bool):(BS ms).foldl (Fh k) s=Er s (ofK ms k):=by
 induction ms generalizing s with
 |nil=>rfl
 |cons m ms ih=>
  by_cases hk:m.2.1=k
  ·have e2:ofK (m::ms) k=m::ofK ms k:=by simp[ofK,hk]
   rw[e2]
   show _=Er (Vk s m) (ofK ms k)
   by_cases h1:okM m=true
   ·have e:BS (m::ms)=m::BS ms:=by rw[BS,List.filter_cons_of_pos h1];rfl
    rw[e,List.foldl_cons,ih]
    congr 1
    have h1' :AK m.1 m.2.1 m.2.2=true:=h1
    unfold Fh Vk;rw[if_pos hk,if_pos h1']
   ·have e:BS (m::ms)=BS ms:=by rw[BS,List.filter_cons_of_neg h1];rfl
    have h1' :¬AK m.1 m.2.1 m.2.2=true:=h1
    rw[e,ih,Vk,if_neg h1']
  ·have e2:ofK (m::ms) k=ofK ms k:=by simp[ofK,hk]
   rw[e2]
   by_cases h1:okM m=true
   ·have e:BS (m::ms)=m::BS ms:=by rw[BS,List.filter_cons_of_pos h1];rfl
    rw[e,List.foldl_cons,Fr hk,ih]
   ·have e:BS (m::ms)=BS ms:=by rw[BS,List.filter_cons_of_neg h1];rfl
    rw[e,ih]
theorem R6 (k:Int) (ms:ML) (s:Int × Bool):Er s (ofK (AC ms) k)=Er s (ofK ms k):=by
 rw[←Uk, ← Uk,Rc]
 exact(QZ ms k s).2
theorem Ma (k:Int):∀(l A:ML),(∀m∈l,m.2.1≠k)->(∀a∈A,a.2.1≠k)->∀a∈l.foldl BH A,a.2.1≠k
 |[],_,_,hA=>hA
 |m::l,A,hl,hA=>Ma k l (BH A m) (fun q hq=>hl q (List.mem_cons_of_mem _ hq)) (KU A m k hA (hl m List.mem_cons_self))
theorem RH {ms:ML} {a:Int × Int × Int} (h:a∈AC ms):∃m∈ms,m.2.1=a.2.1:=by
 refine Classical.byContradiction fun hn=> ?_
 have h1:∀m∈DB ms,m.2.1≠a.2.1:=fun m hm he=>hn ⟨m,(JS ms m hm).1,he⟩
 exact Ma a.2.1 (DB ms) [] h1 (fun x hx=>by simp at hx) a h rfl
end
section
def Rt (d:Nat) (f:Int->Int × Bool) (lo hi:Int) (t:Tr):Prop:=AG d t lo hi=d/\∀k,lo<=k->k<hi->Fe d t k=f k
def Seg (d:Nat) (f:Int->Int × Bool):Int->Int->List Int->List Tr->Prop
 |lo,hi,[],[t]=>Rt d f lo hi t
 |lo,hi,c::cs,t::ts=>Rt d f lo c t/\lo<c/\c<hi/\Seg d f c hi cs ts
 |_,_,_,_=>False
def ES (lo hi:Int) (ms:ML):Prop:=∀m∈ms,okN m/\lo<=m.2.1/\m.2.1<hi
def Hc (lo hi:Int) (cs:List Int):Prop:=∀i,i<cs.length->frC cs lo i<iAt cs i/\iAt cs i<hi

variable {d:Nat} {f g h:Int->Int × Bool}

theorem Rt.congr {lo hi:Int} {t:Tr} (a:Rt d f lo hi t) (e:∀k,lo<=k->k<hi->f k=g k):Rt d g lo hi t:=⟨a.1,fun k h1 h2=>(a.2 k h1 h2).trans (e k h1 h2)⟩
theorem Seg.len:∀ {cs:List Int} {lo hi:Int} {ts:List Tr},Seg d f lo hi cs ts->cs.length+1=ts.length
 |[],_,_,[_],_=>rfl
 |[],_,_,[],a=>a.elim
 |[],_,_,_::_::_,a=>a.elim
 |_::_,_,_,[],a=>a.elim
 |_::cs,_,_,_::ts,⟨_,_,_,a⟩=>by have:=a.len;simp only[List.length_cons];omega
theorem Seg.congr:∀ {cs:List Int} {lo hi:Int} {ts:List Tr},Seg d f lo hi cs ts->(∀k,lo<=k->k<hi->f k=g k)->Seg d g lo hi cs ts
 |[],_,_,[_],a,e=>Rt.congr a e
 |[],_,_,[],a,_=>a.elim
 |[],_,_,_::_::_,a,_=>a.elim
 |_::_,_,_,[],a,_=>a.elim
 |_::_,_,_,_::_,⟨a,b,c,r⟩,e=>⟨a.congr fun k h1 h2=>e k h1 (by omega),b,c,r.congr fun k h1 h2=>e k (by omega) h2⟩
theorem Seg.append:∀ {cs1:List Int} {lo c hi:Int} {ts1:List Tr} {cs2:List Int} {ts2:List Tr},Seg d f lo c cs1 ts1->lo<c->c<hi->Seg d f c hi cs2 ts2->Seg d f lo hi (cs1++c::cs2) (ts1++ts2)
 |[],_,_,_,[_],_,_,a,h1,h2,r=>⟨a,h1,h2,r⟩
 |[],_,_,_,[],_,_,a,_,_,_=>a.elim
 |[],_,_,_,_::_::_,_,_,a,_,_,_=>a.elim
 |_::_,_,_,_,[],_,_,a,_,_,_=>a.elim
 |_::_,_,_,_,_::_,_,_,⟨a,b,c0,r0⟩,_,h2,r=>⟨a,b,by omega,r0.append c0 h2 r⟩
theorem Seg.drop:∀ {i:Nat} {cs:List Int} {lo hi:Int} {ts:List Tr},Seg d f lo hi cs ts->i<ts.length->Seg d f (frC cs lo i) hi (cs.drop i) (ts.drop i)
 |0,_,_,_,_,a,_=>a
 |i+1,[],_,_,ts,a,hi0=>by have:=a.len;simp at this;omega
 |_+1,_::_,_,_,[],a,_=>a.elim
 |i+1,c::cs,lo,hi,t::ts,⟨_,_,_,r⟩,hi0=>by
  have:=r.drop (i:=i) (by simpa using hi0)
  rw[List.drop_succ_cons,List.drop_succ_cons]
  cases i with
  |zero=>simpa[frC,iAt] using this
  |succ i=>simpa[frC,iAt] using this
theorem Seg.take:∀ {n:Nat} {cs:List Int} {lo hi:Int} {ts:List Tr},Seg d f lo hi cs ts->n<ts.length->Seg d f lo (toC cs hi n) (cs.take n) (ts.take (n+1))
 |0,[],_,_,[_],a,_=>a
 |_,[],_,_,[],a,_=>a.elim
 |_,[],_,_,_::_::_,a,_=>a.elim
 |_+1,[],_,_,[_],_,hn=>by simp at hn
 |_,_::_,_,_,[],a,_=>a.elim
 |0,_::_,_,_,_::_,⟨a,_,_,_⟩,_=>by simpa[toC,iAt,Seg] using a
 |n+1,c::cs,lo,hi,t::ts,⟨a,b,c0,r⟩,hn=>by
  have h1:=r.take (n:=n) (by simpa using hn)
  have e:toC (c::cs) hi (n+1)=toC cs hi n:=by simp[toC,iAt]
  rw[List.take_succ_cons,List.take_succ_cons,e]
  refine⟨a,b, ?_,h1⟩
  unfold toC;split
  ·rename_i hlt
   clear h1 e hn a b;induction cs generalizing c ts n with
   |nil=>simp at hlt
   |cons c1 cs ih=>
    cases ts with
    |nil=>exact r.elim
    |cons t1 ts=>
     obtain⟨_,r1,r2,r3⟩:=r
     cases n with
     |zero=>simpa[iAt] using r1
     |succ n=>
      have:=ih (c:=c1) (ts:=ts) r2 r3 (n:=n) (by simpa using hlt)
      simp only[iAt,List.getD_cons_succ] at this ⊢
      omega
  ·exact c0
theorem Seg.cuts:∀ {cs:List Int} {lo hi:Int} {ts:List Tr},Seg d f lo hi cs ts->Hc lo hi cs
 |[],_,_,_,_=>fun i h=>by simp at h
 |_::_,_,_,[],a=>a.elim
 |c::cs,lo,hi,t::ts,⟨_,b,c0,r⟩=>fun i h=>by
  cases i with
  |zero=>simpa[frC,iAt] using⟨b,c0⟩
  |succ i=>
   have:=r.cuts i (by simpa using h)
   cases i with
   |zero=>simpa[frC,iAt] using this
   |succ i=>simpa[frC,iAt] using this
theorem Seg.at:∀ {cs:List Int} {lo hi:Int} {ts:List Tr},Seg d f lo hi cs ts->∀i,i<ts.length->Rt d f (frC cs lo i) (toC cs hi i) (ts.getD i Ah):=fun a i hi0=>by
 have h1:=a.drop hi0
 have h2:=h1.take (n:=0) (by rw[List.length_drop];omega)
 rename_i cs lo hi ts
 have e1:(ts.drop i).take (0+1)=[ts.getD i Ah]:=by
  rw[List.drop_eq_getElem_cons hi0,List.take_succ_cons,List.take_zero];simp[List.getD,hi0]
 have e2:toC (cs.drop i) hi 0=toC cs hi i:=by
  unfold toC;by_cases hc:i<cs.length
  ·rw[if_pos (by simp;omega),if_pos hc];simp[iAt,List.getD]
  ·rw[if_neg (by simp;omega),if_neg hc]
 rw[e1,e2,List.take_zero] at h2
 exact h2
theorem Seg.of:∀ {cs:List Int} {lo hi:Int} {ts:List Tr},cs.length+1=ts.length->Hc lo hi cs->(∀i,i<ts.length->Rt d f (frC cs lo i) (toC cs hi i) (ts.getD i Ah))->Seg d f lo hi cs ts
 |[],lo,hi,[t],_,_,a=>by
  show Rt d f lo hi t
  simpa[frC,toC] using a 0 (by simp)
 |[],_,_,[],hl,_,_=>by simp at hl
 |[],_,_,_::_::_,hl,_,_=>by simp at hl
 |_::_,_,_,[],hl,_,_=>by simp at hl
 |c::cs,lo,hi,t::ts,hl,hc,a=>by
  have a0:=a 0 (by simp)
  have c0:=hc 0 (by simp)
  simp only[frC,toC,if_true,List.length_cons,Nat.zero_lt_succ,iAt,List.getD_cons_zero] at a0 c0
  refine⟨a0,c0.1,c0.2,Seg.of (by simpa using hl) (fun i hi0=> ?_) (fun i hi0=> ?_)⟩
  ·have:=hc (i+1) (by simpa using hi0)
   cases i with
   |zero=>simpa[frC,iAt] using this
   |succ i=>simpa[frC,iAt] using this
  ·have:=a (i+1) (by simpa using hi0)
   simp only[frC,toC,iAt,Nat.add_one_ne_zero,if_false,Nat.add_sub_cancel,List.getD_cons_succ,List.length_cons,Nat.add_lt_add_iff_right] at this ⊢
   cases i with
   |zero=>simpa using this
   |succ i=>simpa using this

theorem Hc.tail {c lo hi:Int} {cs:List Int} (a:Hc lo hi (c::cs)):lo<c/\c<hi/\Hc c hi cs:=by
 have c0:=a 0 (by simp)
 simp only[frC,if_true,iAt,List.getD_cons_zero] at c0
 refine⟨c0.1,c0.2,fun i hi0=> ?_⟩
 have:=a (i+1) (by simpa using hi0)
 cases i with
 |zero=>simpa[frC,iAt] using this
 |succ i=>simpa[frC,iAt] using this
theorem Hc.lo {lo hi:Int} {cs:List Int} (a:Hc lo hi cs):∀i,i<cs.length->lo<iAt cs i:=by
 induction cs generalizing lo with
 |nil=>intro i h;simp at h
 |cons c cs ih=>
  obtain⟨h1,h2,h3⟩:=a.tail
  intro i hi0
  cases i with
  |zero=>simpa[iAt] using h1
  |succ i=>
   have:=ih h3 i (by simpa using hi0)
   simp only[iAt,List.getD_cons_succ] at this ⊢
   omega
theorem Hc.asc {lo hi:Int} {cs:List Int} (a:Hc lo hi cs):∀i j,i<j->j<cs.length->iAt cs i<iAt cs j:=by
 induction cs generalizing lo with
 |nil=>intro i j _ h;simp at h
 |cons c cs ih=>
  obtain⟨h1,h2,h3⟩:=a.tail
  intro i j hij hj
  cases j with
  |zero=>omega
  |succ j=>
   cases i with
   |zero=>
    have:=h3.lo j (by simpa using hj)
    simpa[iAt] using this
   |succ i=>
    have:=ih h3 i j (by omega) (by simpa using hj)
    simpa[iAt] using this
theorem Hc.pref {lo hi:Int} {cs:List Int} (a:Hc lo hi cs) {i:Nat} (hi0:i<=cs.length) {k:Int} (h1:frC cs lo i<=k) (h2:k<toC cs hi i):AN cs k=i:=by
 refine QC hi0 (fun j hj=> ?_) (fun hlt=> ?_)
 ·unfold frC at h1;rw[if_neg (by omega)] at h1
  by_cases e:j=i-1
  ·rw[e];exact h1
  ·have:=a.asc j (i-1) (by omega) (by omega)
   omega
 ·unfold toC at h2;rw[if_pos hlt] at h2
  omega
theorem Hc.cnt {lo hi:Int} {cs:List Int} (a:Hc lo hi cs) (k:Int):EW cs k cs.length=AN cs k:=OB a.asc
theorem Hc.mineK {lo hi:Int} {cs:List Int} (a:Hc lo hi cs) (i:Nat) (b:ML):mineK cs i b=Ar cs i b:=by
 unfold YtnakaabnjelffaaGreat.mineK Ar
 congr 1
 funext m
 rw[a.cnt]

theorem Seg.put:∀ {cs:List Int} {lo hi:Int} {ts:List Tr} {i:Nat} {x:TM},Seg d f lo hi cs ts->i<ts.length->Seg d h (frC cs lo i) (toC cs hi i) x.2 x.1->(∀k,lo<=k->k<hi->AN cs k≠i->f k=h k)→
  Seg d h lo hi (cs.take i++x.2++cs.drop i) (ts.take i++x.1++ts.drop (i+1))
 |[],_,_,[],_,_,a,_,_,_=>a.elim
 |[],_,_,_::_::_,_,_,a,_,_,_=>a.elim
 |_::_,_,_,[],_,_,a,_,_,_=>a.elim
 |[],lo,hi,[t],i,x,_,hi0,b,_=>by
  have e:i=0:=by simp at hi0;omega
  subst e;simpa[frC,toC] using b
 |c::cs,lo,hi,t::ts,0,x,⟨a,a1,a2,r⟩,_,b,e=>by
  have b' :Seg d h lo c x.2 x.1:=by simpa[frC,toC,iAt] using b
  have r' :Seg d h c hi cs ts:=r.congr fun k h1 h2=>e k (by omega) h2 (by rw[E8 h1];omega)
  simpa using b'.append a1 a2 r'
 |c::cs,lo,hi,t::ts,i+1,x,⟨a,a1,a2,r⟩,hi0,b,e=>by
  have b' :Seg d h (frC cs c i) (toC cs hi i) x.2 x.1:=by
   have e1:frC (c::cs) lo (i+1)=frC cs c i:=by
    cases i with
    |zero=>simp[frC,iAt]
    |succ i=>simp[frC,iAt]
   have e2:toC (c::cs) hi (i+1)=toC cs hi i:=by simp[toC,iAt]
   rw[e1,e2] at b
   exact b
  have r' :=r.put (i:=i) (by simpa using hi0) b' (fun k h1 h2 h3=>e k (by omega) h2 (by rw[E8 h1];omega))
  rw[List.take_succ_cons,List.take_succ_cons,List.drop_succ_cons,List.drop_succ_cons]
  exact⟨a.congr fun k h1 h2=>e k h1 (by omega) (by rw[Gk (by omega)];omega),a1,a2,r'⟩

theorem Seg.both {m:TM} {lo hi:Int} (F:Nat->TM) (hl:m.2.length+1=m.1.length) (hc:Hc lo hi m.2) (a:∀i,i<m.1.length->Seg d h (frC m.2 lo i) (toC m.2 hi i) (F i).2 (F i).1):Seg d h lo hi (BE F m).2 (BE F m).1:=by
 have key:∀j,j<m.1.length->Seg d h lo (toC m.2 hi j) (BF F m.2 (j+1)) (AA F (j+1)):=by
  intro j;induction j with
  |zero=>
   intro hj;have:=a 0 hj
   simpa[BF,AA,frC] using this
  |succ j ih=>
   intro hj;have h1:=ih (by omega)
   have h2:=a (j+1) hj
   have e1:toC m.2 hi j=iAt m.2 j:=by rw[toC,if_pos (by omega)]
   have e2:frC m.2 lo (j+1)=iAt m.2 j:=by rw[frC,if_neg (by omega),Nat.add_sub_cancel]
   rw[e1] at h1
   rw[e2] at h2
   have h3:iAt m.2 j<toC m.2 hi (j+1):=by
    unfold toC;split
    ·have:=(hc (j+1) (by assumption)).1
     rw[e2] at this
     exact this
    ·exact(hc j (by omega)).2
   have:=h1.append (hc.lo j (by omega)) h3 h2
   have e3:BF F m.2 (j+1+1)=BF F m.2 (j+1)++iAt m.2 j::(F (j+1)).2:=by
    rw[BF,if_pos (by omega),Nat.add_sub_cancel,List.append_assoc];rfl
   rw[e3,AA]
   exact this
 have:=key (m.1.length-1) (by omega)
 rw[show m.1.length-1+1=m.1.length by omega,toC,if_neg (by omega)] at this
 exact this
end
end Go.Proofs.YtnakaabnjelffaaGreat
