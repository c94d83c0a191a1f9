/-
  The program's inTwos: parts of two each, three in the last one where there is one left.
  A row of trees that is being put together out of parts, in the program's boxes.
-/
import Derived.Test.YtadmomgdacfgpaaGreatOfInjd26
namespace Go.Proofs.YtadmomgdacfgpaaGreat
set_option maxRecDepth 100000
set_option maxHeartbeats 8000000
section
open Go.RowKit

def DJ (n:Nat):Nat->Nat->List (Nat × Nat)
 |0,_=>[]
 |f+1,i=>if i<n then (i,AG (n-i))::DJ n f (i+AG (n-i)) else []
def As (n i:Nat):List (Nat × Nat):=DJ n (n-i) i
theorem GI (n:Nat):∀f g i,n-i<=f->n-i<=g->DJ n f i=DJ n g i
 |0,0,_,_,_=>rfl
 |0,g+1,i,h,_=>by rw[DJ,DJ,if_neg (by omega)]
 |f+1,0,i,_,h=>by rw[DJ,DJ,if_neg (by omega)]
 |f+1,g+1,i,hf,hg=>by
  have:=Bh (n-i)
  rw[DJ,DJ]
  split
  ·rw[GI n f g _ (by omega) (by omega)]
  ·rfl
theorem Jk {n i:Nat} (h:i<n):As n i=(i,AG (n-i))::As n (i+AG (n-i)):=by
 have h2:=Bh (n-i)
 unfold As;rw[GI n (n-i) (n-i+1) i (by omega) (by omega),DJ,if_pos h,GI n (n-i) (n-(i+AG (n-i))) _ (by omega) (by omega)]
theorem Ir {n i:Nat} (h:¬i<n):As n i=[]:=by
 unfold As;rw[show n-i=0 by omega];rfl
theorem H9:∀n i,(As n i).length<=n-i:=by
 intro n;have key:∀f i,(DJ n f i).length<=f:=by
  intro f;induction f with
  |zero=>intro i;exact Nat.le_refl _
  |succ f ih=>
   intro i;rw[DJ]
   split
   ·have:=ih (i+AG (n-i));simp only[List.length_cons];omega
   ·simp
 exact fun i=>key _ i
abbrev Ei (b off q size:Nat) (p:Nat × Nat):Value:= .slice (some ⟨b,off+p.1*size,none⟩) p.2 (q-p.1)

theorem Tryz.info28:(Tryz.prog.info? 28).map (fun i=>(i.zero,i.size,i.bytes))=some (some (.slice none 0 0),1,24):=by kernel_rfl
theorem Pe (b off n q:Nat) (w:World) (hn:2<=n) (hq:n<=q) (hm:q<=maxLen) (hb:n<=1048576) :
  Calls Tryz.prog 96 #[.slice (some ⟨b,off,none⟩) n q] w fun e w' =>∃v,e= .returned v/\w'.ownsRow w.heap.size 28 1 v (As n 0).length ((As n 0).map (Ei b off q 5))/\Below w.heap.size w w' :=by
 obtain⟨i0,hi0,hz0,hz1,hz2⟩:=info_parts Tryz.info28
 have PA:Hid (∀i,i<n->As n i=(i,AG (n-i))::As n (i+AG (n-i))):=fun i h=>Jk h
 have PE:Hid (∀i,¬i<n->As n i=[]):=fun i h=>Ir h
 have MN:Hid (∀r,AG r=2∨(AG r=3/\r=3)):=Bh
 have M3:Hid (AG 3=3):=rfl
 generalize hP:As n 0=P0 at *
 have E0:Hid (As n 0=P0):=hP
 clear hP;unfold maxLen at hm;go_enter Tryz.func96,Tryz.ntmps96
 go_wp2;go_loopw [0,3] (fun s ps wr=>∃(i r o c' k:Nat) (D:List (Nat × Nat)) (a:Option Addr) (c:Nat),s= .slice (some ⟨b,o,none⟩) r c' ∧ps= .slice a k c/\Hid (k=D.length)/\Hid (o=off+i*5)/\Hid (i+r=n)/\Hid (c' =q-i)/\r<=c' ∧c' <=9223372036854775807/\r<=1048576/\2<=r/\k<=1048576/\Hid (k<=i)/\Hid (D++As n i=P0)/\Hid (wr.ownsRow w.heap.size 28 1 (.slice a k c) k (D.map (Ei b off q 5)))/\Hid (Below w.heap.size w wr))
  (fun s _ _=>match s with| .slice _ m _=>m|_=>0)
 case atStart=>exact⟨0,n,off,q,0,[],none,0,rfl,rfl,rfl,by show _=_;omega,by show _=_;omega,rfl,hq,by omega,hb,hn,by omega,Nat.le_refl _,E0,World.ownsRow_nil _ _ _ _,Below.refl _ _⟩
 case round=>
  obtain⟨i,r,o,c',k,D,a,c,rfl,rfl,HK,HO,HI,HC,hrc,hcm,hrm,hr2,hkm,HKI,ED,OW,BW⟩:=hrel
  have PI:=PA.out i (by have:=HI.out;omega)
  rw[show n-i=r by have:=HI.out;omega] at PI
  have hM:=MN.out r
  have hr3:r=3->AG r=3:=fun h=>by rw[h];exact M3.out
  generalize AG r=M at *
  have PI2:Hid (As n i=(i,M)::As n (i+M)):=PI
  have HR:Hid _:=Bb (n:=k) (bytes:=24) (by omega) (by decide)
  have ONE:Hid (∀(m:Nat) (u:Value),u∈[Value.slice (some ⟨b,o,none⟩) m c']->u.oneCell' =true):=fun m u hu=>by simp at hu;subst hu;rfl
  have hbs:=BW.out.size
  clear PI PA;by_cases h3:3<r
  ·have hM2:M=2:=by omega
   have h3' :(3:Int)<(r:Int):=by omega
   have hc2:2<=c' :=by omega
   have hc3:(2:Int)<=(c' :Int):=by omega
   have hr2' :(2:Int)<=(r:Int):=by omega
   have hc4:¬c' =2:=by omega
   subst hM2;clear hM hr3;go_wp2_with (at_builtin;refine Bm wr rfl _ _ 132 rfl w.heap.size 28 i0 _ 1 24 Tryz.underlying132 hi0 hz0 hz1 hz2 rfl (by decide) (.slice a k c) _ _ rfl OW.out [.slice (some ⟨b,o,none⟩) 2 c'] rfl rfl (ONE.out 2) HR.out.1 HR.out.2 hbs ?_)
   intro v1 w1 o1 h1 b1;obtain⟨a1,c1,hv1,_⟩:=(Row.of_owns o1).len
   subst hv1;have O1:Hid _:=o1
   have B1:Hid _:=BW.out.trans b1
   clear o1 h1 b1 OW BW;go_wp2;go_roundw
   case rel=>exact⟨i+2,r-2,o+2*5,c' - 2,k+1,D++[(i,2)],a1,c1,by simp,rfl,by show _=_;rw[HK.out];simp,by show _=_;have:=HO.out;omega,by show _=_;have:=HI.out;omega,by show _=_;have:=HC.out;omega,by omega,by omega,by omega,by omega,by have:=HI.out;have:=HKI.out;omega,by show _<=_;have:=HKI.out;omega,by show _=_;have:=ED.out;rw[PI2.out] at this;simpa using this,by
    have:=O1.out
    show World.ownsRow _ _ _ _ _ _ _
    rw[List.map_append]
    have e:List.map (Ei b off q 5) [(i,2)]=[.slice (some ⟨b,o,none⟩) 2 c']:=by simp[Ei,HO.out,HC.out]
    rw[e]
    exact this,B1⟩
   case measure=>simp;omega
  ·have hM2:M=r:=by omega
   have h3' :¬(3:Int)<(r:Int):=by omega
   subst hM2;clear hM hr3;go_wp2_with (at_builtin;refine Bm wr rfl _ _ 132 rfl w.heap.size 28 i0 _ 1 24 Tryz.underlying132 hi0 hz0 hz1 hz2 rfl (by decide) (.slice a k c) _ _ rfl OW.out [.slice (some ⟨b,o,none⟩) M c'] rfl rfl (ONE.out M) HR.out.1 HR.out.2 hbs ?_)
   intro v1 w1 o1 h1 b1;have O1:Hid _:=o1
   have B1:Hid _:=BW.out.trans b1
   clear o1 h1 b1 OW BW;go_wp2;go_ret;refine⟨v1,rfl, ?_,B1.out⟩
   have e1:=ED.out
   rw[PI2.out,PE.out (i+M) (by have:=HI.out;omega)] at e1
   rw[←e1,List.length_append,List.map_append, ← HK.out]
   have e:List.map (Ei b off q 5) [(i,M)]=[.slice (some ⟨b,o,none⟩) M c']:=by simp[Ei,HO.out,HC.out]
   rw[e]
   exact O1.out

theorem Tryz.info26:(Tryz.prog.info? 26).map (fun i=>(i.zero,i.size,i.bytes))=some (some (.slice none 0 0),1,24):=by kernel_rfl
theorem Qn (b off n q:Nat) (w:World) (hn:2<=n) (hq:n<=q) (hm:q<=maxLen) (hb:n<=1048576) :
  Calls Tryz.prog 97 #[.slice (some ⟨b,off,none⟩) n q] w fun e w' =>∃v,e= .returned v/\w'.ownsRow w.heap.size 26 1 v (As n 0).length ((As n 0).map (Ei b off q 2))/\Below w.heap.size w w' :=by
 obtain⟨i0,hi0,hz0,hz1,hz2⟩:=info_parts Tryz.info26
 have PA:Hid (∀i,i<n->As n i=(i,AG (n-i))::As n (i+AG (n-i))):=fun i h=>Jk h
 have PE:Hid (∀i,¬i<n->As n i=[]):=fun i h=>Ir h
 have MN:Hid (∀r,AG r=2∨(AG r=3/\r=3)):=Bh
 have M3:Hid (AG 3=3):=rfl
 generalize hP:As n 0=P0 at *
 have E0:Hid (As n 0=P0):=hP
 clear hP;unfold maxLen at hm;go_enter Tryz.func97,Tryz.ntmps97
 go_wp2;go_loopw [0,3] (fun s ps wr=>∃(i r o c' k:Nat) (D:List (Nat × Nat)) (a:Option Addr) (c:Nat),s= .slice (some ⟨b,o,none⟩) r c' ∧ps= .slice a k c/\Hid (k=D.length)/\Hid (o=off+i*2)/\Hid (i+r=n)/\Hid (c' =q-i)/\r<=c' ∧c' <=9223372036854775807/\r<=1048576/\2<=r/\k<=1048576/\Hid (k<=i)/\Hid (D++As n i=P0)/\Hid (wr.ownsRow w.heap.size 26 1 (.slice a k c) k (D.map (Ei b off q 2)))/\Hid (Below w.heap.size w wr))
  (fun s _ _=>match s with| .slice _ m _=>m|_=>0)
 case atStart=>exact⟨0,n,off,q,0,[],none,0,rfl,rfl,rfl,by show _=_;omega,by show _=_;omega,rfl,hq,by omega,hb,hn,by omega,Nat.le_refl _,E0,World.ownsRow_nil _ _ _ _,Below.refl _ _⟩
 case round=>
  obtain⟨i,r,o,c',k,D,a,c,rfl,rfl,HK,HO,HI,HC,hrc,hcm,hrm,hr2,hkm,HKI,ED,OW,BW⟩:=hrel
  have PI:=PA.out i (by have:=HI.out;omega)
  rw[show n-i=r by have:=HI.out;omega] at PI
  have hM:=MN.out r
  have hr3:r=3->AG r=3:=fun h=>by rw[h];exact M3.out
  generalize AG r=M at *
  have PI2:Hid (As n i=(i,M)::As n (i+M)):=PI
  have HR:Hid _:=Bb (n:=k) (bytes:=24) (by omega) (by decide)
  have ONE:Hid (∀(m:Nat) (u:Value),u∈[Value.slice (some ⟨b,o,none⟩) m c']->u.oneCell' =true):=fun m u hu=>by simp at hu;subst hu;rfl
  have hbs:=BW.out.size
  clear PI PA;by_cases h3:3<r
  ·have hM2:M=2:=by omega
   have h3' :(3:Int)<(r:Int):=by omega
   have hc2:2<=c' :=by omega
   have hc3:(2:Int)<=(c' :Int):=by omega
   have hr2' :(2:Int)<=(r:Int):=by omega
   have hc4:¬c' =2:=by omega
   subst hM2;clear hM hr3;go_wp2_with (at_builtin;refine Bm wr rfl _ _ 134 rfl w.heap.size 26 i0 _ 1 24 Tryz.underlying134 hi0 hz0 hz1 hz2 rfl (by decide) (.slice a k c) _ _ rfl OW.out [.slice (some ⟨b,o,none⟩) 2 c'] rfl rfl (ONE.out 2) HR.out.1 HR.out.2 hbs ?_)
   intro v1 w1 o1 h1 b1;obtain⟨a1,c1,hv1,_⟩:=(Row.of_owns o1).len
   subst hv1;have O1:Hid _:=o1
   have B1:Hid _:=BW.out.trans b1
   clear o1 h1 b1 OW BW;go_wp2;go_roundw
   case rel=>exact⟨i+2,r-2,o+2*2,c' - 2,k+1,D++[(i,2)],a1,c1,by simp,rfl,by show _=_;rw[HK.out];simp,by show _=_;have:=HO.out;omega,by show _=_;have:=HI.out;omega,by show _=_;have:=HC.out;omega,by omega,by omega,by omega,by omega,by have:=HI.out;have:=HKI.out;omega,by show _<=_;have:=HKI.out;omega,by show _=_;have:=ED.out;rw[PI2.out] at this;simpa using this,by
    have:=O1.out
    show World.ownsRow _ _ _ _ _ _ _
    rw[List.map_append]
    have e:List.map (Ei b off q 2) [(i,2)]=[.slice (some ⟨b,o,none⟩) 2 c']:=by simp[Ei,HO.out,HC.out]
    rw[e]
    exact this,B1⟩
   case measure=>simp;omega
  ·have hM2:M=r:=by omega
   have h3' :¬(3:Int)<(r:Int):=by omega
   subst hM2;clear hM hr3;go_wp2_with (at_builtin;refine Bm wr rfl _ _ 134 rfl w.heap.size 26 i0 _ 1 24 Tryz.underlying134 hi0 hz0 hz1 hz2 rfl (by decide) (.slice a k c) _ _ rfl OW.out [.slice (some ⟨b,o,none⟩) M c'] rfl rfl (ONE.out M) HR.out.1 HR.out.2 hbs ?_)
   intro v1 w1 o1 h1 b1;have O1:Hid _:=o1
   have B1:Hid _:=BW.out.trans b1
   clear o1 h1 b1 OW BW;go_wp2;go_ret;refine⟨v1,rfl, ?_,B1.out⟩
   have e1:=ED.out
   rw[PI2.out,PE.out (i+M) (by have:=HI.out;omega)] at e1
   rw[←e1,List.length_append,List.map_append, ← HK.out]
   have e:List.map (Ei b off q 2) [(i,M)]=[.slice (some ⟨b,o,none⟩) M c']:=by simp[Ei,HO.out,HC.out]
   rw[e]
   exact O1.out
end
section
open Go.RowKit

theorem Aj.parted {w:World} {b1 b2 e1 e2 s1 s2 n1 n2:Nat} {v1 v2:Value} {x1 x2:List Value} (h1:Aj w b1 e1 s1 v1 n1 x1) (h2:w.ownsRow b2 e2 s2 v2 n2 x2) (he:e1≠e2):∀g,v2.ownBlock=some g->¬wrB v1 g:=by
 intro g hg ⟨n,cap,hv,hc⟩
 obtain⟨_,h2|⟨g2,cap2,cur2,rfl,_,hh2,_⟩⟩:=h2
 ·rw[h2.1] at hg;cases hg
 ·have e2:g2=g:=by simpa[Value.ownBlock] using hg
  subst e2;subst hv;rcases h1 with⟨_,h1|⟨g1,cap1,cur1,e,_,hh1,_⟩⟩|⟨_,_,g',e⟩
  ·simp at h1
  ·simp at e
   obtain⟨rfl,_⟩:=e
   rw[hh1] at hh2
   simp at hh2
   exact he hh2.2
  ·simp at e
   omega

theorem Ai.lt {u:World} {B:Nat} {A:Array Value} (h:Ai u B A):B<u.heap.size:=(Array.getElem?_eq_some_iff.1 h).1
theorem Ai.set0 {u:World} {L:Nat} {x0 x1:Value} (h:Ai u L #[x0,x1]) (t0:Value):Ai (u.setCell ⟨L,0,none⟩ t0) L #[t0,x1]:=heap_setCell_same u L 0 _ 65 t0 h
theorem Ai.set1 {u:World} {L:Nat} {x0 x1:Value} (h:Ai u L #[x0,x1]) (t1:Value):Ai (u.setCell ⟨L,1,none⟩ t1) L #[x0,t1]:=heap_setCell_same u L 1 _ 65 t1 h

structure FkJ (d st:Nat) (k:Nat) (G:Nat->Prop) (w wr:World) (vt vc:Value) (ts:List Tr) (cs:List Int) (vp:Value) (PL:List Value):Prop where
 om:Bc d (w.heap.size+k+1) G wr vt vc ts cs
 bx:Ai wr (w.heap.size+k) #[vt,vc]
 bw:Below w.heap.size w wr
 ow:wr.ownsRow (w.heap.size+k+1) st 1 vp PL.length PL

variable {d st k:Nat} {G:Nat->Prop} {w wr w' :World} {vt vc vt' vc' vp:Value} {ts us:List Tr} {cs ds:List Int} {PL:List Value}

theorem FkJ.step (h:FkJ d st k G w wr vt vc ts cs vp PL) (hb:Below wr.heap.size wr w'):FkJ d st k G w w' vt vc ts cs vp PL:=
 ⟨h.om.below hb,h.bx.step hb,Below.and h.bw hb,AF h.ow hb⟩
theorem FkJ.below' {p:Nat->Prop} (h:FkJ d st k G w wr vt vc ts cs vp PL) (hc:Chg p wr w') (hp:∀g,p g->w.heap.size<=g):Below w.heap.size w w':=
 h.bw.trans (hc.below (fun g hg hg' =>by have:=hp g hg';omega) h.bw.size)
theorem FkJ.stepC (h:FkJ d st k G w wr vt vc ts cs vp PL) (h3:st≠3) (hG:∀g,g=w.heap.size+k->¬G g) (a:F7 wr (w.heap.size+k+1) 3 1 vc (cs.length+ds.length) (Ad cs++Ad ds) vc' w') :
  Ai w' (w.heap.size+k) #[vt,vc]/\FkJ d st k G w (w'.setCell ⟨w.heap.size+k,1,none⟩ vc') vt vc' ts (cs++ds) vp PL:=by
 have hlo:∀g,wrB vc g->w.heap.size+k+1<=g:=fun g hg=>(h.om.rowC.lt g hg).1
 have b1:Ai w' (w.heap.size+k) #[vt,vc]:=h.bx.chg a.2.1 fun e=>by have:=hlo _ e;omega
 have o1:=h.om.addC (ds:=ds) a
 have hc:=AB w' (w.heap.size+k) 1 vc'
 refine⟨b1,o1.chg hc (fun g hg=>⟨hG g hg,by omega⟩),b1.set1 vc', ?_, ?_⟩
 ·exact(h.below' a.2.1 fun g hg=>by have:=hlo g hg;omega).setCell (p:=⟨w.heap.size+k,1,none⟩) (Nat.le_add_right _ _) vc'
 ·have q1:=Az h.ow a.2.1 (Aj.parted h.om.rowC h.ow (by omega))
  exact Az q1 hc fun g hg e=>by have:=(q1.lt g hg).1;omega
theorem FkJ.stepT (h:FkJ d st k G w wr vt vc ts cs vp PL) (h3:st≠30) (hG:∀g,g=w.heap.size+k->¬G g) {ys:List TV} {m:Nat} (hm:m=ys.length) (hl:ys.length=us.length) (he:∀i,i<ys.length->Au d wr (En G vt vc) (Ay ys i) (us.getD i Am))
  {xs:List TV} (hx:xs.length=ts.length) (hx3:∀i,i<xs.length->Au d wr (En G vt vc) (Ay xs i) (ts.getD i Am)) (ho:Aj wr (w.heap.size+k+1) 30 5 vt xs.length (Ao xs))
  (a:F7 wr (w.heap.size+k+1) 30 5 vt (xs.length+m) (Ao xs++Ao ys) vt' w') :
  Ai w' (w.heap.size+k) #[vt,vc]/\FkJ d st k G w (w'.setCell ⟨w.heap.size+k,0,none⟩ vt') vt' vc (ts++us) cs vp PL:=by
 have hlo:∀g,wrB vt g->w.heap.size+k+1<=g:=fun g hg=>(ho.lt g hg).1
 have b1:Ai w' (w.heap.size+k) #[vt,vc]:=h.bx.chg a.2.1 fun e=>by have:=hlo _ e;omega
 have o1:=h.om.addT hm hl he hx hx3 a
 have hc:=AB w' (w.heap.size+k) 0 vt'
 refine⟨b1,o1.chg hc (fun g hg=>⟨hG g hg,by omega⟩),b1.set0 vt', ?_, ?_⟩
 ·exact(h.below' a.2.1 fun g hg=>by have:=hlo g hg;omega).setCell (p:=⟨w.heap.size+k,0,none⟩) (Nat.le_add_right _ _) vt'
 ·have q1:=Az h.ow a.2.1 (Aj.parted ho h.ow (by omega))
  exact Az q1 hc fun g hg e=>by have:=(q1.lt g hg).1;omega
end
end Go.Proofs.YtadmomgdacfgpaaGreat
