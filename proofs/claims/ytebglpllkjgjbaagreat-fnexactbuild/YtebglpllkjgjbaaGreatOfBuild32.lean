/-
  The program's inTwos: parts of two each, three in the last one where there is one left.
  A row of trees that is being put together out of parts, in the program's boxes.
-/
import Derived.Test.YtebglpllkjgjbaaGreatOfBuild31
namespace Go.Proofs.YtebglpllkjgjbaaGreat
set_option maxRecDepth 100000
set_option maxHeartbeats 8000000
section
open Go.RowKit

def Ej (n:Nat):Nat->Nat->List (Nat × Nat)
 |0,_=>[]
 |f+1,i=>if i<n then (i,AE (n-i))::Ej n f (i+AE (n-i)) else []
def Au (n i:Nat):List (Nat × Nat):=Ej n (n-i) i
theorem G9 (n:Nat):∀f g i,n-i<=f->n-i<=g->Ej n f i=Ej n g i
 |0,0,_,_,_=>rfl
 |0,g+1,i,h,_=>by rw[Ej,Ej,if_neg (by omega)]
 |f+1,0,i,_,h=>by rw[Ej,Ej,if_neg (by omega)]
 |f+1,g+1,i,hf,hg=>by
  have:=Bs (n-i)
  rw[Ej,Ej]
  split
  ·rw[G9 n f g _ (by omega) (by omega)]
  ·rfl
theorem JS {n i:Nat} (h:i<n):Au n i=(i,AE (n-i))::Au n (i+AE (n-i)):=by
 have h2:=Bs (n-i)
 unfold Au;rw[G9 n (n-i) (n-i+1) i (by omega) (by omega),Ej,if_pos h,G9 n (n-i) (n-(i+AE (n-i))) _ (by omega) (by omega)]
theorem Jb {n i:Nat} (h:¬i<n):Au n i=[]:=by
 unfold Au;rw[show n-i=0 by omega];rfl
theorem IR:∀n i,(Au n i).length<=n-i:=by
 intro n;have key:∀f i,(Ej n f i).length<=f:=by
  intro f;induction f with
  |zero=>intro i;exact Nat.le_refl _
  |succ f ih=>
   intro i;rw[Ej]
   split
   ·have:=ih (i+AE (n-i));simp only[List.length_cons];omega
   ·simp
 exact fun i=>key _ i
abbrev EA (b off q size:Nat) (p:Nat × Nat):Value:= .slice (some ⟨b,off+p.1*size,none⟩) p.2 (q-p.1)

theorem Tryz.info26:(Tryz.prog.info? 26).map (fun i=>(i.zero,i.size,i.bytes))=some (some (.slice none 0 0),1,24):=by kernel_rfl
theorem QW (b off n q:Nat) (w:World) (hn:2<=n) (hq:n<=q) (hm:q<=maxLen) (hb:n<=1048576) :
  Calls Tryz.prog 87 #[.slice (some ⟨b,off,none⟩) n q] w fun e w' =>∃v,e= .returned v/\w'.ownsRow w.heap.size 26 1 v (Au n 0).length ((Au n 0).map (EA b off q 5))/\Below w.heap.size w w' :=by
 obtain⟨i0,hi0,hz0,hz1,hz2⟩:=info_parts Tryz.info26
 have PA:Hid (∀i,i<n->Au n i=(i,AE (n-i))::Au n (i+AE (n-i))):=fun i h=>JS h
 have PE:Hid (∀i,¬i<n->Au n i=[]):=fun i h=>Jb h
 have MN:Hid (∀r,AE r=2∨(AE r=3/\r=3)):=Bs
 have M3:Hid (AE 3=3):=rfl
 generalize hP:Au n 0=P0 at *
 have E0:Hid (Au n 0=P0):=hP
 clear hP;unfold maxLen at hm;go_enter Tryz.func87,Tryz.ntmps87
 go_wp2;go_loopw [0,3] (fun s ps wr=>∃(i r o c' k:Nat) (D:List (Nat × Nat)) (a:Option Addr) (c:Nat),s= .slice (some ⟨b,o,none⟩) r c' ∧ps= .slice a k c/\Hid (k=D.length)/\Hid (o=off+i*5)/\Hid (i+r=n)/\Hid (c' =q-i)/\r<=c' ∧c' <=9223372036854775807/\r<=1048576/\2<=r/\k<=1048576/\Hid (k<=i)/\Hid (D++Au n i=P0)/\Hid (wr.ownsRow w.heap.size 26 1 (.slice a k c) k (D.map (EA b off q 5)))/\Hid (Below w.heap.size w wr))
  (fun s _ _=>match s with| .slice _ m _=>m|_=>0)
 case atStart=>exact⟨0,n,off,q,0,[],none,0,rfl,rfl,rfl,by show _=_;omega,by show _=_;omega,rfl,hq,by omega,hb,hn,by omega,Nat.le_refl _,E0,World.ownsRow_nil _ _ _ _,Below.refl _ _⟩
 case round=>
  obtain⟨i,r,o,c',k,D,a,c,rfl,rfl,HK,HO,HI,HC,hrc,hcm,hrm,hr2,hkm,HKI,ED,OW,BW⟩:=hrel
  have PI:=PA.out i (by have:=HI.out;omega)
  rw[show n-i=r by have:=HI.out;omega] at PI
  have hM:=MN.out r
  have hr3:r=3->AE r=3:=fun h=>by rw[h];exact M3.out
  generalize AE r=M at *
  have PI2:Hid (Au n i=(i,M)::Au n (i+M)):=PI
  have HR:Hid _:=Bn (n:=k) (bytes:=24) (by omega) (by decide)
  have ONE:Hid (∀(m:Nat) (u:Value),u∈[Value.slice (some ⟨b,o,none⟩) m c']->u.oneCell' =true):=fun m u hu=>by simp at hu;subst hu;rfl
  have hbs:=BW.out.size
  clear PI PA;by_cases h3:3<r
  ·have hM2:M=2:=by omega
   have h3' :(3:Int)<(r:Int):=by omega
   have hc2:2<=c' :=by omega
   have hc3:(2:Int)<=(c' :Int):=by omega
   have hr2' :(2:Int)<=(r:Int):=by omega
   have hc4:¬c' =2:=by omega
   subst hM2;clear hM hr3;go_wp2_with (at_builtin;refine BJ wr rfl _ _ 116 rfl w.heap.size 26 i0 _ 1 24 Tryz.underlying116 hi0 hz0 hz1 hz2 rfl (by decide) (.slice a k c) _ _ rfl OW.out [.slice (some ⟨b,o,none⟩) 2 c'] rfl rfl (ONE.out 2) HR.out.1 HR.out.2 hbs ?_)
   intro v1 w1 o1 h1 b1;obtain⟨a1,c1,hv1,_⟩:=(Row.of_owns o1).len
   subst hv1;have O1:Hid _:=o1
   have B1:Hid _:=BW.out.trans b1
   clear o1 h1 b1 OW BW;go_wp2;go_roundw
   case rel=>exact⟨i+2,r-2,o+2*5,c' - 2,k+1,D++[(i,2)],a1,c1,by simp,rfl,by show _=_;rw[HK.out];simp,by show _=_;have:=HO.out;omega,by show _=_;have:=HI.out;omega,by show _=_;have:=HC.out;omega,by omega,by omega,by omega,by omega,by have:=HI.out;have:=HKI.out;omega,by show _<=_;have:=HKI.out;omega,by show _=_;have:=ED.out;rw[PI2.out] at this;simpa using this,by
    have:=O1.out
    show World.ownsRow _ _ _ _ _ _ _
    rw[List.map_append]
    have e:List.map (EA b off q 5) [(i,2)]=[.slice (some ⟨b,o,none⟩) 2 c']:=by simp[EA,HO.out,HC.out]
    rw[e]
    exact this,B1⟩
   case measure=>simp;omega
  ·have hM2:M=r:=by omega
   have h3' :¬(3:Int)<(r:Int):=by omega
   subst hM2;clear hM hr3;go_wp2_with (at_builtin;refine BJ wr rfl _ _ 116 rfl w.heap.size 26 i0 _ 1 24 Tryz.underlying116 hi0 hz0 hz1 hz2 rfl (by decide) (.slice a k c) _ _ rfl OW.out [.slice (some ⟨b,o,none⟩) M c'] rfl rfl (ONE.out M) HR.out.1 HR.out.2 hbs ?_)
   intro v1 w1 o1 h1 b1;have O1:Hid _:=o1
   have B1:Hid _:=BW.out.trans b1
   clear o1 h1 b1 OW BW;go_wp2;go_ret;refine⟨v1,rfl, ?_,B1.out⟩
   have e1:=ED.out
   rw[PI2.out,PE.out (i+M) (by have:=HI.out;omega)] at e1
   rw[←e1,List.length_append,List.map_append, ← HK.out]
   have e:List.map (EA b off q 5) [(i,M)]=[.slice (some ⟨b,o,none⟩) M c']:=by simp[EA,HO.out,HC.out]
   rw[e]
   exact O1.out

theorem Tryz.info24:(Tryz.prog.info? 24).map (fun i=>(i.zero,i.size,i.bytes))=some (some (.slice none 0 0),1,24):=by kernel_rfl
theorem Qq (b off n q:Nat) (w:World) (hn:2<=n) (hq:n<=q) (hm:q<=maxLen) (hb:n<=1048576) :
  Calls Tryz.prog 88 #[.slice (some ⟨b,off,none⟩) n q] w fun e w' =>∃v,e= .returned v/\w'.ownsRow w.heap.size 24 1 v (Au n 0).length ((Au n 0).map (EA b off q 2))/\Below w.heap.size w w' :=by
 obtain⟨i0,hi0,hz0,hz1,hz2⟩:=info_parts Tryz.info24
 have PA:Hid (∀i,i<n->Au n i=(i,AE (n-i))::Au n (i+AE (n-i))):=fun i h=>JS h
 have PE:Hid (∀i,¬i<n->Au n i=[]):=fun i h=>Jb h
 have MN:Hid (∀r,AE r=2∨(AE r=3/\r=3)):=Bs
 have M3:Hid (AE 3=3):=rfl
 generalize hP:Au n 0=P0 at *
 have E0:Hid (Au n 0=P0):=hP
 clear hP;unfold maxLen at hm;go_enter Tryz.func88,Tryz.ntmps88
 go_wp2;go_loopw [0,3] (fun s ps wr=>∃(i r o c' k:Nat) (D:List (Nat × Nat)) (a:Option Addr) (c:Nat),s= .slice (some ⟨b,o,none⟩) r c' ∧ps= .slice a k c/\Hid (k=D.length)/\Hid (o=off+i*2)/\Hid (i+r=n)/\Hid (c' =q-i)/\r<=c' ∧c' <=9223372036854775807/\r<=1048576/\2<=r/\k<=1048576/\Hid (k<=i)/\Hid (D++Au n i=P0)/\Hid (wr.ownsRow w.heap.size 24 1 (.slice a k c) k (D.map (EA b off q 2)))/\Hid (Below w.heap.size w wr))
  (fun s _ _=>match s with| .slice _ m _=>m|_=>0)
 case atStart=>exact⟨0,n,off,q,0,[],none,0,rfl,rfl,rfl,by show _=_;omega,by show _=_;omega,rfl,hq,by omega,hb,hn,by omega,Nat.le_refl _,E0,World.ownsRow_nil _ _ _ _,Below.refl _ _⟩
 case round=>
  obtain⟨i,r,o,c',k,D,a,c,rfl,rfl,HK,HO,HI,HC,hrc,hcm,hrm,hr2,hkm,HKI,ED,OW,BW⟩:=hrel
  have PI:=PA.out i (by have:=HI.out;omega)
  rw[show n-i=r by have:=HI.out;omega] at PI
  have hM:=MN.out r
  have hr3:r=3->AE r=3:=fun h=>by rw[h];exact M3.out
  generalize AE r=M at *
  have PI2:Hid (Au n i=(i,M)::Au n (i+M)):=PI
  have HR:Hid _:=Bn (n:=k) (bytes:=24) (by omega) (by decide)
  have ONE:Hid (∀(m:Nat) (u:Value),u∈[Value.slice (some ⟨b,o,none⟩) m c']->u.oneCell' =true):=fun m u hu=>by simp at hu;subst hu;rfl
  have hbs:=BW.out.size
  clear PI PA;by_cases h3:3<r
  ·have hM2:M=2:=by omega
   have h3' :(3:Int)<(r:Int):=by omega
   have hc2:2<=c' :=by omega
   have hc3:(2:Int)<=(c' :Int):=by omega
   have hr2' :(2:Int)<=(r:Int):=by omega
   have hc4:¬c' =2:=by omega
   subst hM2;clear hM hr3;go_wp2_with (at_builtin;refine BJ wr rfl _ _ 118 rfl w.heap.size 24 i0 _ 1 24 Tryz.underlying118 hi0 hz0 hz1 hz2 rfl (by decide) (.slice a k c) _ _ rfl OW.out [.slice (some ⟨b,o,none⟩) 2 c'] rfl rfl (ONE.out 2) HR.out.1 HR.out.2 hbs ?_)
   intro v1 w1 o1 h1 b1;obtain⟨a1,c1,hv1,_⟩:=(Row.of_owns o1).len
   subst hv1;have O1:Hid _:=o1
   have B1:Hid _:=BW.out.trans b1
   clear o1 h1 b1 OW BW;go_wp2;go_roundw
   case rel=>exact⟨i+2,r-2,o+2*2,c' - 2,k+1,D++[(i,2)],a1,c1,by simp,rfl,by show _=_;rw[HK.out];simp,by show _=_;have:=HO.out;omega,by show _=_;have:=HI.out;omega,by show _=_;have:=HC.out;omega,by omega,by omega,by omega,by omega,by have:=HI.out;have:=HKI.out;omega,by show _<=_;have:=HKI.out;omega,by show _=_;have:=ED.out;rw[PI2.out] at this;simpa using this,by
    have:=O1.out
    show World.ownsRow _ _ _ _ _ _ _
    rw[List.map_append]
    have e:List.map (EA b off q 2) [(i,2)]=[.slice (some ⟨b,o,none⟩) 2 c']:=by simp[EA,HO.out,HC.out]
    rw[e]
    exact this,B1⟩
   case measure=>simp;omega
  ·have hM2:M=r:=by omega
   have h3' :¬(3:Int)<(r:Int):=by omega
   subst hM2;clear hM hr3;go_wp2_with (at_builtin;refine BJ wr rfl _ _ 118 rfl w.heap.size 24 i0 _ 1 24 Tryz.underlying118 hi0 hz0 hz1 hz2 rfl (by decide) (.slice a k c) _ _ rfl OW.out [.slice (some ⟨b,o,none⟩) M c'] rfl rfl (ONE.out M) HR.out.1 HR.out.2 hbs ?_)
   intro v1 w1 o1 h1 b1;have O1:Hid _:=o1
   have B1:Hid _:=BW.out.trans b1
   clear o1 h1 b1 OW BW;go_wp2;go_ret;refine⟨v1,rfl, ?_,B1.out⟩
   have e1:=ED.out
   rw[PI2.out,PE.out (i+M) (by have:=HI.out;omega)] at e1
   rw[←e1,List.length_append,List.map_append, ← HK.out]
   have e:List.map (EA b off q 2) [(i,M)]=[.slice (some ⟨b,o,none⟩) M c']:=by simp[EA,HO.out,HC.out]
   rw[e]
   exact O1.out
end
section
open Go.RowKit

theorem Ak.parted {w:World} {b1 b2 e1 e2 s1 s2 n1 n2:Nat} {v1 v2:Value} {x1 x2:List Value} (h1:Ak w b1 e1 s1 v1 n1 x1) (h2:w.ownsRow b2 e2 s2 v2 n2 x2) (he:e1≠e2):∀g,v2.ownBlock=some g->¬wrB v1 g:=by
 intro g hg ⟨n,cap,hv,hc⟩
 obtain⟨_,h2|⟨g2,cap2,cur2,rfl,_,hh2,_⟩⟩:=h2
 ·rw[h2.1] at hg;cases hg
 ·have e2:g2=g:=by simpa[Value.ownBlock] using hg
  subst e2;subst hv;rcases h1 with⟨_,h1|⟨g1,cap1,cur1,e,_,hh1,_⟩⟩|⟨_,_,g',e⟩
  ·simp at h1
  ·simp at e
   obtain⟨rfl,_⟩:=e
   rw[hh1] at hh2
   simp at hh2
   exact he hh2.2
  ·simp at e
   omega

theorem Am.lt {u:World} {B:Nat} {A:Array Value} (h:Am u B A):B<u.heap.size:=(Array.getElem?_eq_some_iff.1 h).1
theorem Am.set0 {u:World} {L:Nat} {x0 x1:Value} (h:Am u L #[x0,x1]) (t0:Value):Am (u.setCell ⟨L,0,none⟩ t0) L #[t0,x1]:=heap_setCell_same u L 0 _ 67 t0 h
theorem Am.set1 {u:World} {L:Nat} {x0 x1:Value} (h:Am u L #[x0,x1]) (t1:Value):Am (u.setCell ⟨L,1,none⟩ t1) L #[x0,t1]:=heap_setCell_same u L 1 _ 67 t1 h

structure FkJ (d st:Nat) (k:Nat) (G:Nat->Prop) (w wr:World) (vt vc:Value) (ts:List Tr) (cs:List Int) (vp:Value) (PL:List Value):Prop where
 om:Bk d (w.heap.size+k+1) G wr vt vc ts cs
 bx:Am wr (w.heap.size+k) #[vt,vc]
 bw:Below w.heap.size w wr
 ow:wr.ownsRow (w.heap.size+k+1) st 1 vp PL.length PL

variable {d st k:Nat} {G:Nat->Prop} {w wr w' :World} {vt vc vt' vc' vp:Value} {ts us:List Tr} {cs ds:List Int} {PL:List Value}

theorem FkJ.step (h:FkJ d st k G w wr vt vc ts cs vp PL) (hb:Below wr.heap.size wr w'):FkJ d st k G w w' vt vc ts cs vp PL:=
 ⟨h.om.below hb,h.bx.step hb,Below.and h.bw hb,AD h.ow hb⟩
theorem FkJ.below' {p:Nat->Prop} (h:FkJ d st k G w wr vt vc ts cs vp PL) (hc:Chg p wr w') (hp:∀g,p g->w.heap.size<=g):Below w.heap.size w w':=
 h.bw.trans (hc.below (fun g hg hg' =>by have:=hp g hg';omega) h.bw.size)
theorem FkJ.stepC (h:FkJ d st k G w wr vt vc ts cs vp PL) (h3:st≠3) (hG:∀g,g=w.heap.size+k->¬G g) (a:Gy wr (w.heap.size+k+1) 3 1 vc (cs.length+ds.length) (Ac cs++Ac ds) vc' w') :
  Am w' (w.heap.size+k) #[vt,vc]/\FkJ d st k G w (w'.setCell ⟨w.heap.size+k,1,none⟩ vc') vt vc' ts (cs++ds) vp PL:=by
 have hlo:∀g,wrB vc g->w.heap.size+k+1<=g:=fun g hg=>(h.om.rowC.lt g hg).1
 have b1:Am w' (w.heap.size+k) #[vt,vc]:=h.bx.chg a.2.1 fun e=>by have:=hlo _ e;omega
 have o1:=h.om.addC (ds:=ds) a
 have hc:=AC w' (w.heap.size+k) 1 vc'
 refine⟨b1,o1.chg hc (fun g hg=>⟨hG g hg,by omega⟩),b1.set1 vc', ?_, ?_⟩
 ·exact(h.below' a.2.1 fun g hg=>by have:=hlo g hg;omega).setCell (p:=⟨w.heap.size+k,1,none⟩) (Nat.le_add_right _ _) vc'
 ·have q1:=AN h.ow a.2.1 (Ak.parted h.om.rowC h.ow (by omega))
  exact AN q1 hc fun g hg e=>by have:=(q1.lt g hg).1;omega
theorem FkJ.stepT (h:FkJ d st k G w wr vt vc ts cs vp PL) (h3:st≠29) (hG:∀g,g=w.heap.size+k->¬G g) {ys:List TV} {m:Nat} (hm:m=ys.length) (hl:ys.length=us.length) (he:∀i,i<ys.length->Ay d wr (EX G vt vc) (Al ys i) (us.getD i Aj))
  {xs:List TV} (hx:xs.length=ts.length) (hx3:∀i,i<xs.length->Ay d wr (EX G vt vc) (Al xs i) (ts.getD i Aj)) (ho:Ak wr (w.heap.size+k+1) 29 5 vt xs.length (An xs))
  (a:Gy wr (w.heap.size+k+1) 29 5 vt (xs.length+m) (An xs++An ys) vt' w') :
  Am w' (w.heap.size+k) #[vt,vc]/\FkJ d st k G w (w'.setCell ⟨w.heap.size+k,0,none⟩ vt') vt' vc (ts++us) cs vp PL:=by
 have hlo:∀g,wrB vt g->w.heap.size+k+1<=g:=fun g hg=>(ho.lt g hg).1
 have b1:Am w' (w.heap.size+k) #[vt,vc]:=h.bx.chg a.2.1 fun e=>by have:=hlo _ e;omega
 have o1:=h.om.addT hm hl he hx hx3 a
 have hc:=AC w' (w.heap.size+k) 0 vt'
 refine⟨b1,o1.chg hc (fun g hg=>⟨hG g hg,by omega⟩),b1.set0 vt', ?_, ?_⟩
 ·exact(h.below' a.2.1 fun g hg=>by have:=hlo g hg;omega).setCell (p:=⟨w.heap.size+k,0,none⟩) (Nat.le_add_right _ _) vt'
 ·have q1:=AN h.ow a.2.1 (Ak.parted ho h.ow (by omega))
  exact AN q1 hc fun g hg e=>by have:=(q1.lt g hg).1;omega
end
end Go.Proofs.YtebglpllkjgjbaaGreat
