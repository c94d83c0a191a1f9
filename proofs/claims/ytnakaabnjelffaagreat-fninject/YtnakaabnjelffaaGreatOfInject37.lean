/-
  The program's copyOfTree.
  Trees that are right are small; the program's copyOfEither.
  The contract of the program's give, for a leaf.
  Contracts of the program's messages behind their interface: key and msg, whatever message it is.
-/
import Derived.Test.YtnakaabnjelffaaGreatOfInject35
import Derived.Test.YtnakaabnjelffaaGreatOfInject36
import Derived.Test.YtnakaabnjelffaaGreatOfInject26
import Derived.Test.YtnakaabnjelffaaGreatOfInject6
import Derived.Test.YtnakaabnjelffaaGreatOfInject17
import Derived.Test.YtnakaabnjelffaaGreatOfInject11
import Derived.Test.YtnakaabnjelffaaGreatOfInject32
import Derived.Test.YtnakaabnjelffaaGreatOfInject33
import Derived.Test.YtnakaabnjelffaaGreatOfInject34
import Derived.Test.YtnakaabnjelffaaGreatOfInject8
import Derived.Test.YtnakaabnjelffaaGreatOfInject10
namespace Go.Proofs.YtnakaabnjelffaaGreat
set_option maxRecDepth 100000
set_option maxHeartbeats 8000000
section
open Go.RowKit

def QA (S C:Nat) (w:World):Nat:=Tl ((w.cell? ⟨C,1,none⟩).getD (.bool true))+(S-(intOf ((w.cell? ⟨C,2,none⟩).getD (.bool true))).toNat)
theorem Ru {S C cp:Nat} {w:World} {x0:Value} {a:Option Addr} {m q:Nat} (h:Do w C #[x0, .slice a m q, .int .i64 (cp:Nat)]):QA S C w=m+(S-cp):=by
 obtain⟨_,h1,h2⟩:=h.three
 unfold QA;rw[h1,h2]
 simp[Tl,intOf]
def Dd (w:World) (a b c d e:Value):World:=(((((w.alloc (.cells #[a,b,c,d,e] 29)).alloc (.cells #[.bool false, .slice none 0 0, .slice none 0 0, .slice none 0 0, .slice none 0 0] 29)).alloc (.map #[] 0)).alloc (.cells #[.pointer (some ⟨w.heap.size,0,none⟩)] 83)).alloc (.cells #[.map (some (w.heap.size+1+1)), .slice (some ⟨w.heap.size+1+1+1,0,none⟩) 1 1, .int .i64 0] 86))
def XD (w:World) (n:Nat) (T:Tr) (u:World):Prop:=∃(y:TV) (G:Nat->Prop),Holds u w.heap.size 0 y/\AD n u G y T/\∀g,G g->w.heap.size+5<=g

theorem Vo {d:Bool} {n:Nat} {T:Tr} {F:Nat->Prop} {w:World} {x:TV} (h:Src d n w F x T) (hz:Az n T<=1048576):Ci d (kz n T) w (Dd w (.bool x.lf) x.p x.c x.k x.b) (w.heap.size+4) (w.heap.size+2) [⟨w.heap.size,0,x,T,n,F⟩] (.slice (some ⟨w.heap.size+3,0,none⟩) 1 1) 0 (fun _=>False) (XD w n T)/\(Dd w (.bool x.lf) x.p x.c x.k x.b).heap[w.heap.size+1]? =some (.cells #[.bool false, .slice none 0 0, .slice none 0 0, .slice none 0 0, .slice none 0 0] 29 (0,0)):=by
 have e:∀(x:World) (o:Obj),(x.alloc o).heap.size=x.heap.size+1:=fun x o=>by simp
 have k1:∀(x:World) (o:Obj) (g:Nat),g<x.heap.size->(x.alloc o).heap[g]? =x.heap[g]? :=fun x o g hg=>((Below.refl x.heap.size x).alloc (Nat.le_refl _) o).block g hg
 have hs:(Dd w (.bool x.lf) x.p x.c x.k x.b).heap.size=w.heap.size+5:=by unfold Dd;simp
 have h0:(Dd w (.bool x.lf) x.p x.c x.k x.b).heap[w.heap.size]? =some (.cells #[.bool x.lf,x.p,x.c,x.k,x.b] 29 (0,0)):=by
  unfold Dd;rw[k1 _ _ _ (by simp only[World.size_alloc];omega),k1 _ _ _ (by simp only[World.size_alloc];omega),k1 _ _ _ (by simp only[World.size_alloc];omega),k1 _ _ _ (by simp only[World.size_alloc];omega)]
  exact heap_alloc_new w _
 have h1:(Dd w (.bool x.lf) x.p x.c x.k x.b).heap[w.heap.size+1]? =some (.cells #[.bool false, .slice none 0 0, .slice none 0 0, .slice none 0 0, .slice none 0 0] 29 (0,0)):=by
  unfold Dd;rw[k1 _ _ _ (by simp only[World.size_alloc];omega),k1 _ _ _ (by simp only[World.size_alloc];omega),k1 _ _ _ (by simp only[World.size_alloc];omega)]
  exact DY (by simp)
 have h2:(Dd w (.bool x.lf) x.p x.c x.k x.b).heap[w.heap.size+2]? =some (.map #[] 0):=by
  unfold Dd;rw[k1 _ _ _ (by simp only[World.size_alloc];omega),k1 _ _ _ (by simp only[World.size_alloc];omega)]
  exact DY (by simp)
 have h3:(Dd w (.bool x.lf) x.p x.c x.k x.b).heap[w.heap.size+3]? =some (.cells #[.pointer (some ⟨w.heap.size,0,none⟩)] 83 (0,0)):=by
  unfold Dd;rw[k1 _ _ _ (by simp only[World.size_alloc];omega)]
  exact DY (by simp)
 have h4:(Dd w (.bool x.lf) x.p x.c x.k x.b).heap[w.heap.size+4]? =some (.cells #[.map (some (w.heap.size+2)), .slice (some ⟨w.heap.size+3,0,none⟩) 1 1, .int .i64 0] 86 (0,0)):=by
  unfold Dd;exact DY (by simp)
 have hb:Below w.heap.size w (Dd w (.bool x.lf) x.p x.c x.k x.b):=by
  unfold Dd;exact(((((Below.refl _ _).alloc (Nat.le_refl _) _).alloc (by simp) _).alloc (by simp;omega) _).alloc (by simp;omega) _).alloc (by simp;omega) _
 refine⟨⟨h4,⟨#[],0,h2,fun e he=>by simp at he⟩, ?_,fun g hg=> ?_,hb,by omega,by omega,fun g hg=>hg.elim,fun p hp=> ?_,fun p hp=> ?_,fun p hp=> ?_,List.pairwise_singleton _ _,fun _=>⟨List.pairwise_singleton _ _,fun p _ g _ hg=>hg⟩, ?_, ?_, ?_,fun p hp=>by simp at hp;subst hp;exact hz⟩,h1⟩
 ·refine .inl ⟨rfl, .inr ⟨_,_,_,rfl,Nat.zero_le _,h3,Nat.le_refl _,by decide,rfl,rfl⟩⟩
 ·obtain⟨_,_,he,_⟩:=hg
  simp at he
  omega
 ·simp at hp
  subst hp;exact⟨_,h0,rfl,rfl,rfl,rfl,rfl⟩
 ·simp at hp
  subst hp;exact Nat.le_refl _
 ·simp at hp
  subst hp;exact h
 ·rw[Ka]
  simp
 ·rw[Ka]
  simp
  omega
 ·exact NH.first (w:=Dd w (.bool x.lf) x.p x.c x.k x.b) _ _ (Nat.le_refl _) (fun u' y G hy ht hg=>⟨y,G,hy,ht,fun g hG=>by have:=hg g hG;omega⟩)

theorem EX (d:Bool) (n:Nat) (x:TV) (T:Tr) (F:Nat->Prop) (w:World) (ht:Src d n w F x T) (hs:Az n T<=1048576) (hd:d=false->Az n T<=100000) :
  Calls Tryz.prog 22 #[x.val] w fun e w' =>∃y:TV,e= .returned y.val/\AD n w' (fun g=>w.heap.size<=g) y T/\Below w.heap.size w w' :=by
 have hS:kz n T<=1048576:=Nat.le_trans (Yj n T) hs
 have HD:Hid (d=false->kz n T<=100000):=fun e=>Nat.le_trans (Yj n T) (hd e)
 obtain⟨CI,RB⟩:=Vo ht hs
 have I0:Hid (∃(ps:List Pd) (vl:Value) (cp:Nat) (V:Nat->Prop),Ci d (kz n T) w (Dd w (.bool x.lf) x.p x.c x.k x.b) (w.heap.size+4) (w.heap.size+2) ps vl cp V (XD w n T)/\EQ ([]:List Pd) (Dd w (.bool x.lf) x.p x.c x.k x.b) (Dd w (.bool x.lf) x.p x.c x.k x.b)/\∃z0 z1 z2 z3 z4,(Dd w (.bool x.lf) x.p x.c x.k x.b).heap[w.heap.size+1]? =some (.cells #[z0,z1,z2,z3,z4] 29 (0,0))):=⟨_,_,_,_,CI,EQ.refl _ _,_,_,_,_,_,RB⟩
 obtain⟨xl,xp,xc,xk,xb⟩:=x
 clear ht hd CI RB hs;generalize kz n T=S at *
 have hmk:∀W:World,(Instr.makeMap 82 none).run Tryz.prog W= .ok (.map (some W.heap.size)) (W.alloc (.map #[] 0)):=fun _=>rfl
 show Calls Tryz.prog 22 #[.agg #[.bool xl,xp,xc,xk,xb]] w _
 go_enter Tryz.func22,Tryz.ntmps22
 go_wp2;clear hmk;go_loopw [4] (fun _ wr=>Hid (∃(ps:List Pd) (vl:Value) (cp:Nat) (V:Nat->Prop),Ci d S w wr (w.heap.size+1+1+1+1) (w.heap.size+2) ps vl cp V (XD w n T)/\∃z0 z1 z2 z3 z4,wr.heap[w.heap.size+1]? =some (.cells #[z0,z1,z2,z3,z4] 29 (0,0))))
  (fun _ wr=>QA S (w.heap.size+1+1+1+1) wr)
 case atStart=>
  obtain⟨ps,vl,cp,V,h1,_,h2⟩:=I0.out
  exact⟨ps,vl,cp,V,h1,h2⟩
 case round=>
  clear I0;obtain⟨ps,vl,cp,V,hci,z0,z1,z2,z3,z4,hrb⟩:=hrel.out
  clear hrel;obtain⟨al,ql,hvl⟩:=hci.shape
  subst hvl;obtain⟨c0,c1,c2⟩:=hci.bx.three
  have CIH:=hid (hci)
  have HRB:=hid (hrb)
  clear hci hrb;rcases List.eq_nil_or_concat ps with hps|⟨qs,p,hps⟩
  ·subst hps;obtain⟨⟨yl,yp,yc,yk,yb⟩,G,hy,hty,hG⟩:=CIH.out.kon.last
   obtain⟨r1,r2,r3,r4,z5,z6,z7,z8,s1,s2,s3,s4,hx⟩:=hty.treeF.slices
   simp only[TV.mk.injEq,true_and] at hx
   obtain⟨hx1,hx2,hx3,hx4⟩:=hx
   subst hx1 hx2 hx3 hx4;obtain⟨k0,k1,k2,k3,k4,kf⟩:=hy.cells
   simp only[Nat.zero_add] at k0 k1 k2 k3 k4
   simp only[List.length_nil] at c1
   have bz:CF wr (w.heap.size+1) #[z0,z1,z2,z3,z4]:=HRB.out
   have z8c:=bz.cells
   have z9:=bz.free
   have Z:=(bz.set5 (.bool yl) (.slice r1 z5 s1) (.slice r2 z6 s2) (.slice r3 z7 s3) (.slice r4 z8 s4)).cells
   have FIN:Hid (AD n (WL wr (w.heap.size+1) (.bool yl) (.slice r1 z5 s1) (.slice r2 z6 s2) (.slice r3 z7 s3) (.slice r4 z8 s4)) (fun g=>w.heap.size<=g) ⟨yl, .slice r1 z5 s1, .slice r2 z6 s2, .slice r3 z7 s3, .slice r4 z8 s4⟩ T/\Below w.heap.size w (WL wr (w.heap.size+1) (.bool yl) (.slice r1 z5 s1) (.slice r2 z6 s2) (.slice r3 z7 s3) (.slice r4 z8 s4))):=
    ⟨(hty.chg (Nj wr (w.heap.size+1) _ _ _ _ _) (fun g hg e=>by have:=hG g hg;omega)).mono (fun g hg=>by have:=hG g hg;omega),IY CIH.out.bw (Nat.le_succ _) _ _ _ _ _⟩
   have HZ2:Hid _:=Z
   clear CIH HRB bz hy hty hG c0 c2 Z;go_wp2;have Z:=HZ2.out
   refine bodyPost_ret (v:= .agg #[.bool yl, .slice r1 z5 s1, .slice r2 z6 s2, .slice r3 z7 s3, .slice r4 z8 s4]) (by simp[results,Tryz.results22,go_sem,Z]) rfl ⟨⟨yl, .slice r1 z5 s1, .slice r2 z6 s2, .slice r3 z7 s3, .slice r4 z8 s4⟩,rfl,FIN.out.1,FIN.out.2⟩
  ·rw[List.concat_eq_append] at hps
   subst hps;obtain⟨g,q,hv,hq,hcell,MID⟩:=CIH.out.pop
   have hlen:(qs++[p]).length=qs.length+1:=by simp
   rw[hlen] at c1 hv
   injection hv with e1 e2 e3
   subst e1 e3;have hcnt:=CIH.out.cnt
   have hsum:=CIH.out.sum
   rw[hlen] at hcnt
   have hm:qs.length<=1048576:=by omega
   have fr:=CIH.out.bx.free 1
   have hsrc:=CIH.out.src p (by simp)
   have hszp:=CIH.out.sz p (by simp)
   have hpb:p.b<wr.heap.size:=(CIH.out.ho p (by simp)).lt
   obtain⟨b,o,⟨yl,yp,yc,yk,yb⟩,PT,pn,PF⟩:=p
   cases pn with
   |zero=>exact hsrc.not0.elim
   |succ n'=>
   obtain⟨r1,r2,r3,r4,z5,z6,z7,z8,s1,s2,s3,s4,hx⟩:=hsrc.2.slices
   simp only[TV.mk.injEq,true_and] at hx
   obtain⟨hx1,hx2,hx3,hx4⟩:=hx
   subst hx1 hx2 hx3 hx4;obtain⟨hlf,R1,R2,R3,xs,KF,hxl,RK,SK,DD⟩:=hsrc.parts
   simp only at hlf R1 R2 R3 hxl RK SK DD hszp hpb
   rw[MT] at hszp
   have hkz:=T9 (K0:=0) hxl SK
   have hge:=OZ xs xs.length (Nat.le_refl _)
   have hpot:Ky (qs++[⟨b,o,⟨yl, .slice r1 z5 s1, .slice r2 z6 s2, .slice r3 z7 s3, .slice r4 z8 s4⟩,PT,n' +1,PF⟩])=Ky qs+kz (n' +1) PT:=by rw[Gz,Ka]
   rw[hpot] at hsum hcnt
   have CL1:=hid (fun u (hu:Below w.heap.size w u)=>OY _ _ _ u (R1.below hu).row (Cx _) (Ei _) (by omega))
   have CL2:=hid (fun u (hu:Below w.heap.size w u)=>Qh _ _ _ u (R2.below hu).row (by rw[Bk];omega) (BT _) (by omega))
   have CL3:=hid (fun u (hu:Below w.heap.size w u)=>P5 _ _ _ u (R3.below hu).row (Dx _) (Fj _) (by omega))
   have KC:Hid (∀(u:World) (y:TV) (vl:Value),Mid w wr u (w.heap.size+1+1+1+1) (w.heap.size+2) ⟨b,o,⟨yl, .slice r1 z5 s1, .slice r2 z6 s2, .slice r3 z7 s3, .slice r4 z8 s4⟩,PT,n' +1,PF⟩ y vl (qs.map Pd.ptr) cp V->Calls Tryz.prog 50 #[.pointer (some ⟨w.heap.size+1+1+1+1,0,none⟩), .slice r3 z7 s3] u fun e w' =>∃(vk vl' :Value) (K bb:Nat),e= .returned vk/\(0<xs.length->(∃Q,vk= .slice (some ⟨K,0,none⟩) xs.length Q)/\∃o q,Value.slice r3 z7 s3= .slice (some ⟨bb,o,none⟩) xs.length q)/\As w' u.heap.size 29 5 vk xs.length (Ap xs)/\Chg (fun g=>g=w.heap.size+1+1+1+1∨g=w.heap.size+2∨wrB vl g) u w' ∧Mid w wr w' (w.heap.size+1+1+1+1) (w.heap.size+2) ⟨b,o,⟨yl, .slice r1 z5 s1, .slice r2 z6 s2, .slice r3 z7 s3, .slice r4 z8 s4⟩,PT,n' +1,PF⟩ y vl' (qs.map Pd.ptr++Gr K xs.length) (cp+Cs xs xs.length) (fun g=>V g∨(0<xs.length/\g=bb))):=by
    intro u y vl hmid;refine(Uw _ _ V (fun g=>PF g/\g<w.heap.size) (.slice r3 z7 s3) xs vl (qs.map Pd.ptr) cp u hmid.bx hmid.md hmid.lf ((RK.lt (Ij _).2).below hmid.bw) (Sm (fun i hi=>(SK i hi).2.slices)) (fun i hi=>(SK i hi).2.slices) (by omega) (by rw[List.length_map];exact hm) (by omega) ?_ ?_ ?_).mono ?_
    ·intro b' o' q' he h0
     cases d with
     |false=>exact .inr (by have:=HD.out rfl;omega)
     |true=>
      obtain⟨e1,e2,e3⟩:=DD rfl
      obtain⟨g',q2,he2,hg',_⟩:=e1 h0
      rw[he2] at he
      have hbe:b' =g' :=by simpa[Value.ownBlock] using(congrArg Value.ownBlock he).symm
      subst hbe;exact .inl ((CIH.out.dis rfl).2 _ (List.mem_append.2 (.inr (List.mem_singleton.2 rfl))) _ hg')
    ·intro g' hg';have h1:=hmid.hv g' hg'
     have h2:=hmid.bw.size
     exact⟨by omega,fun hw=>by have:=hmid.lo g' hw;omega⟩
    ·intro g' hg' hw;have:=hmid.lo g' hw
     omega
    ·rintro e w' ⟨vk,vl',K,bb,he,hk0,hk1,hk2,hk3,hk4,hk5,hk6⟩
     refine⟨vk,vl',K,bb,he,fun h0=>⟨(hk0 h0).1,(hk0 h0).2.2⟩,hk3,hk6,hmid.kids hk6 hk1 hk4 hk2 hk5 (fun g' hg' => ?_)⟩
     rcases hg' with hg' | ⟨h0,rfl⟩
     ·exact hmid.hv g' hg'
     ·exact(hk0 h0).2.1.2
   have MM:Hid _:=MID
   have NX:Hid _:=And.intro hlf (And.intro hxl (And.intro SK DD))
   have HZ:Hid (cp+Cs xs xs.length<=S/\xs.length<=Cs xs xs.length):=⟨by omega,hge⟩
   have hc1:=MID.ho.cells.2.1
   clear MID e2 hlen hcnt hsum c0 c2 hlf R1 R2 R3 hxl RK SK DD hszp hsrc hkz hge hpot;unfold Pd.ptr at hcell
   simp only at hcell hc1
   generalize hqm:qs.length=m at *
   have HQM:=hid (hqm)
   clear hqm;have hpos:(0:Int)<((m+1:Nat):Int):=by omega
   have hsub:((m+1:Nat):Int)-1=(m:Int):=by omega
   have hw1:IntKind.i64.wrap (((m+1:Nat):Int)-1)=(m:Int):=by rw[IntKind.wrap_i64];omega
   have hb1:(0:Int)<=(m:Int):=by omega
   have hb2:(m:Int)<((m+1:Nat):Int):=by omega
   have hb3:(m:Int)<=(ql:Int):=by omega
   go_wp2_with fail;clear c1 fr hpos hsub hw1 hb1 hb2 hb3 hcell hc1;generalize wr.setCell ⟨w.heap.size+1+1+1+1,1,none⟩ (.slice (some ⟨g,0,none⟩) m ql)=u1 at *
   refine(CL1.out u1 MM.out.bw).mono ?_
   rintro e u2 ⟨vp,rfl,o1,b1⟩
   obtain⟨a1,t1,hvp⟩:=o1.slice
   subst hvp;have M2:Hid (Mid w wr u2 (w.heap.size+1+1+1+1) (w.heap.size+2) ⟨b,o,⟨yl, .slice r1 z5 s1, .slice r2 z6 s2, .slice r3 z7 s3, .slice r4 z8 s4⟩,PT,n' +1,PF⟩ ⟨yl, .slice r1 z5 s1, .slice r2 z6 s2, .slice r3 z7 s3, .slice r4 z8 s4⟩ (.slice (some ⟨g,0,none⟩) m ql) (qs.map Pd.ptr) cp V):=MM.out.below b1
   have O1:Hid (As (u2.setCell ⟨b,o+1,none⟩ (.slice a1 PT.pairs.length t1)) wr.heap.size 63 2 (.slice a1 PT.pairs.length t1) PT.pairs.length (Au PT.pairs)):=M2.out.own hpb (o1.mono MM.out.on.1) (o+1) _
   have M3:Hid (Mid w wr (u2.setCell ⟨b,o+1,none⟩ (.slice a1 PT.pairs.length t1)) (w.heap.size+1+1+1+1) (w.heap.size+2) ⟨b,o,⟨yl, .slice r1 z5 s1, .slice r2 z6 s2, .slice r3 z7 s3, .slice r4 z8 s4⟩,PT,n' +1,PF⟩ ⟨yl, .slice a1 PT.pairs.length t1, .slice r2 z6 s2, .slice r3 z7 s3, .slice r4 z8 s4⟩ (.slice (some ⟨g,0,none⟩) m ql) (qs.map Pd.ptr) cp V):=M2.out.set 1 _ (.inl ⟨rfl,rfl⟩)
   obtain⟨hc0,hc1,hc2,hc3,hc4,hfr⟩:=M2.out.ho.cells
   have hd2:=M3.out.ho.cells.2.2.1
   simp only at hc0 hc1 hc2 hc3 hc4 hfr hd2
   clear o1 b1 MM;go_wp2_with fail;clear hc0 hc1 hc2 hc3 hc4 hfr hd2 M2;generalize u2.setCell ⟨b,o+1,none⟩ (.slice a1 PT.pairs.length t1)=u3 at *
   refine(CL2.out u3 M3.out.bw).mono ?_
   rintro e u4 ⟨vc,rfl,o2,b2⟩
   obtain⟨a2,t2,hvc⟩:=o2.slice
   subst hvc;have M4:Hid (Mid w wr u4 (w.heap.size+1+1+1+1) (w.heap.size+2) ⟨b,o,⟨yl, .slice r1 z5 s1, .slice r2 z6 s2, .slice r3 z7 s3, .slice r4 z8 s4⟩,PT,n' +1,PF⟩ ⟨yl, .slice a1 PT.pairs.length t1, .slice r2 z6 s2, .slice r3 z7 s3, .slice r4 z8 s4⟩ (.slice (some ⟨g,0,none⟩) m ql) (qs.map Pd.ptr) cp V):=M3.out.below b2
   have O1b:Hid (As (u4.setCell ⟨b,o+2,none⟩ (.slice a2 PT.cuts.length t2)) wr.heap.size 63 2 (.slice a1 PT.pairs.length t1) PT.pairs.length (Au PT.pairs)):=M4.out.own hpb (O1.out.below b2) (o+2) _
   have O2:Hid (As (u4.setCell ⟨b,o+2,none⟩ (.slice a2 PT.cuts.length t2)) wr.heap.size 3 1 (.slice a2 PT.cuts.length t2) PT.cuts.length (Ab PT.cuts)):=M4.out.own hpb (o2.mono M3.out.on.1) (o+2) _
   have M5:Hid (Mid w wr (u4.setCell ⟨b,o+2,none⟩ (.slice a2 PT.cuts.length t2)) (w.heap.size+1+1+1+1) (w.heap.size+2) ⟨b,o,⟨yl, .slice r1 z5 s1, .slice r2 z6 s2, .slice r3 z7 s3, .slice r4 z8 s4⟩,PT,n' +1,PF⟩ ⟨yl, .slice a1 PT.pairs.length t1, .slice a2 PT.cuts.length t2, .slice r3 z7 s3, .slice r4 z8 s4⟩ (.slice (some ⟨g,0,none⟩) m ql) (qs.map Pd.ptr) cp V):=M4.out.set 2 _ (.inr (.inl ⟨rfl,rfl⟩))
   obtain⟨hc0,hc1,hc2,hc3,hc4,hfr⟩:=M4.out.ho.cells
   have hd3:=M5.out.ho.cells.2.2.2.1
   simp only at hc0 hc1 hc2 hc3 hc4 hfr hd3
   clear o2 b2 M3 O1;go_wp2_with fail;clear hc0 hc1 hc2 hc3 hc4 hfr hd3 M4;generalize u4.setCell ⟨b,o+2,none⟩ (.slice a2 PT.cuts.length t2)=u5 at *
   refine(KC.out u5 _ _ M5.out).mono ?_
   rintro e u6 ⟨vk,vl',K,bb,rfl,hk0,o3,c3,m6⟩
   obtain⟨a3,t3,hvk⟩:=o3.slice
   subst hvk;have HK0:Hid (0<xs.length->(∃Q,Value.slice a3 xs.length t3= .slice (some ⟨K,0,none⟩) xs.length Q)/\∃o q,Value.slice r3 z7 s3= .slice (some ⟨bb,o,none⟩) xs.length q):=hk0
   have M6:Hid (Mid w wr u6 (w.heap.size+1+1+1+1) (w.heap.size+2) ⟨b,o,⟨yl, .slice r1 z5 s1, .slice r2 z6 s2, .slice r3 z7 s3, .slice r4 z8 s4⟩,PT,n' +1,PF⟩ ⟨yl, .slice a1 PT.pairs.length t1, .slice a2 PT.cuts.length t2, .slice r3 z7 s3, .slice r4 z8 s4⟩ vl' (qs.map Pd.ptr++Gr K xs.length) (cp+Cs xs xs.length) (fun g=>V g∨(0<xs.length/\g=bb))):=m6
   have O1:Hid (As (u6.setCell ⟨b,o+3,none⟩ (.slice a3 xs.length t3)) wr.heap.size 63 2 (.slice a1 PT.pairs.length t1) PT.pairs.length (Au PT.pairs)):=M6.out.own hpb (M5.out.ownKids c3 O1b.out (.inl rfl)) (o+3) _
   have O2b:Hid (As (u6.setCell ⟨b,o+3,none⟩ (.slice a3 xs.length t3)) wr.heap.size 3 1 (.slice a2 PT.cuts.length t2) PT.cuts.length (Ab PT.cuts)):=M6.out.own hpb (M5.out.ownKids c3 O2.out (.inr (.inl rfl))) (o+3) _
   have O3:Hid (As (u6.setCell ⟨b,o+3,none⟩ (.slice a3 xs.length t3)) wr.heap.size 29 5 (.slice a3 xs.length t3) xs.length (Ap xs)):=M6.out.own hpb (o3.mono M5.out.on.1) (o+3) _
   have M7:Hid (Mid w wr (u6.setCell ⟨b,o+3,none⟩ (.slice a3 xs.length t3)) (w.heap.size+1+1+1+1) (w.heap.size+2) ⟨b,o,⟨yl, .slice r1 z5 s1, .slice r2 z6 s2, .slice r3 z7 s3, .slice r4 z8 s4⟩,PT,n' +1,PF⟩ ⟨yl, .slice a1 PT.pairs.length t1, .slice a2 PT.cuts.length t2, .slice a3 xs.length t3, .slice r4 z8 s4⟩ vl' (qs.map Pd.ptr++Gr K xs.length) (cp+Cs xs xs.length) (fun g=>V g∨(0<xs.length/\g=bb))):=M6.out.set 3 _ (.inr (.inr (.inl ⟨rfl,rfl⟩)))
   obtain⟨hc0,hc1,hc2,hc3,hc4,hfr⟩:=M6.out.ho.cells
   have hd4:=M7.out.ho.cells.2.2.2.2.1
   simp only at hc0 hc1 hc2 hc3 hc4 hfr hd4
   clear o3 c3 m6 hk0 M5 O1b O2 KC;go_wp2_with fail;clear hc0 hc1 hc2 hc3 hc4 hfr hd4 M6;generalize u6.setCell ⟨b,o+3,none⟩ (.slice a3 xs.length t3)=u7 at *
   refine(CL3.out u7 M7.out.bw).mono ?_
   rintro e u8 ⟨vb,rfl,o4,b4⟩
   obtain⟨a4,t4,hvb⟩:=o4.slice
   subst hvb;have M8:Hid (Mid w wr u8 (w.heap.size+1+1+1+1) (w.heap.size+2) ⟨b,o,⟨yl, .slice r1 z5 s1, .slice r2 z6 s2, .slice r3 z7 s3, .slice r4 z8 s4⟩,PT,n' +1,PF⟩ ⟨yl, .slice a1 PT.pairs.length t1, .slice a2 PT.cuts.length t2, .slice a3 xs.length t3, .slice r4 z8 s4⟩ vl' (qs.map Pd.ptr++Gr K xs.length) (cp+Cs xs xs.length) (fun g=>V g∨(0<xs.length/\g=bb))):=M7.out.below b4
   have P1:Hid (As (u8.setCell ⟨b,o+4,none⟩ (.slice a4 PT.buf.length t4)) wr.heap.size 63 2 (.slice a1 PT.pairs.length t1) PT.pairs.length (Au PT.pairs)):=M8.out.own hpb (O1.out.below b4) (o+4) _
   have P2:Hid (As (u8.setCell ⟨b,o+4,none⟩ (.slice a4 PT.buf.length t4)) wr.heap.size 3 1 (.slice a2 PT.cuts.length t2) PT.cuts.length (Ab PT.cuts)):=M8.out.own hpb (O2b.out.below b4) (o+4) _
   have P3:Hid (As (u8.setCell ⟨b,o+4,none⟩ (.slice a4 PT.buf.length t4)) wr.heap.size 29 5 (.slice a3 xs.length t3) xs.length (Ap xs)):=M8.out.own hpb (O3.out.below b4) (o+4) _
   have P4:Hid (As (u8.setCell ⟨b,o+4,none⟩ (.slice a4 PT.buf.length t4)) wr.heap.size 31 3 (.slice a4 PT.buf.length t4) PT.buf.length (Al PT.buf)):=M8.out.own hpb (o4.mono M7.out.on.1) (o+4) _
   have M9:Hid (Mid w wr (u8.setCell ⟨b,o+4,none⟩ (.slice a4 PT.buf.length t4)) (w.heap.size+1+1+1+1) (w.heap.size+2) ⟨b,o,⟨yl, .slice r1 z5 s1, .slice r2 z6 s2, .slice r3 z7 s3, .slice r4 z8 s4⟩,PT,n' +1,PF⟩ ⟨yl, .slice a1 PT.pairs.length t1, .slice a2 PT.cuts.length t2, .slice a3 xs.length t3, .slice a4 PT.buf.length t4⟩ vl' (qs.map Pd.ptr++Gr K xs.length) (cp+Cs xs xs.length) (fun g=>V g∨(0<xs.length/\g=bb))):=M8.out.set 4 _ (.inr (.inr (.inr ⟨rfl,rfl⟩)))
   obtain⟨hc0,hc1,hc2,hc3,hc4,hfr⟩:=M8.out.ho.cells
   simp only at hc0 hc1 hc2 hc3 hc4 hfr
   clear o4 b4 M7 O1 O2b O3 CL1 CL2 CL3;have CN:Hid (∃(ps:List Pd) (vl:Value) (cp:Nat) (V:Nat->Prop),Ci d S w (u8.setCell ⟨b,o+4,none⟩ (.slice a4 PT.buf.length t4)) (w.heap.size+1+1+1+1) (w.heap.size+2) ps vl cp V (XD w n T)/\∃z0 z1 z2 z3 z4,(u8.setCell ⟨b,o+4,none⟩ (.slice a4 PT.buf.length t4)).heap[w.heap.size+1]? =some (.cells #[z0,z1,z2,z3,z4] 29 (0,0))):=by
    obtain⟨hlf,hxl,SK,DD⟩:=NX.out
    refine⟨_,vl',_,_,Ci.next (K:=K) (b:=bb) (KF:=KF) CIH.out rfl M9.out hlf P1.out P2.out P4.out hxl P3.out (fun h0=>(HK0.out h0).1) SK (fun hdt=> ?_), ?_⟩
    ·obtain⟨e1,e2,e3⟩:=DD hdt
     refine⟨fun h0=> ?_,e2,e3⟩
     obtain⟨g',q2,he2,hg',hg2⟩:=e1 h0
     obtain⟨o',q',he⟩:=(HK0.out h0).2
     rw[he2] at he
     have hbe:bb=g' :=by simpa[Value.ownBlock] using(congrArg Value.ownBlock he).symm
     subst hbe;exact⟨hg',hg2⟩
    ·obtain⟨c',h1,h2,_⟩:=M9.out.on.2 _ _ _ (.inr (.inr (.inr rfl))) HRB.out
     obtain⟨z0,z1,z2,z3,z4,rfl⟩:=XY h2
     exact⟨z0,z1,z2,z3,z4,h1⟩
   have HMS:Hid (QA S (w.heap.size+1+1+1+1) (u8.setCell ⟨b,o+4,none⟩ (.slice a4 PT.buf.length t4))<QA S (w.heap.size+1+1+1+1) wr):=by
    show _<_
    obtain⟨al2,ql2,hvl2⟩:=M9.out.lf.slice
    have h9:=M9.out.bx
    rw[hvl2] at h9
    rw[Ru h9,Ru CIH.out.bx]
    have:=HZ.out
    simp only[List.length_append,List.length_map,Hy,List.length_cons,List.length_nil]
    omega
   clear P1 P2 P3 P4 M9 HK0 NX CIH HRB;go_wp2;go_roundw
   case rel=>exact CN
   case measure=>exact HMS.out
end
section
open Go.RowKit

theorem Uc:∀(ts:List Tr) (f:Tr->Nat) (b:Nat),(∀t∈ts,f t<=b)->(ts.map f).sum<=ts.length*b
 |[],_,_,_=>by simp
 |t::ts,f,b,h=>by
  have h1:=Uc ts f b (fun t' ht' =>h t' (List.mem_cons_of_mem _ ht'))
  have h2:=h t (List.mem_cons_self ..)
  simp only[List.map_cons,List.sum_cons,List.length_cons]
  rw[Nat.succ_mul]
  omega
theorem LG:∀(e:Nat) (T:Tr),shT e T->12*Az e T+52<=25*4^e
 |0,_,h=>h.elim
 |e+1,T,h=>by
  show 12*(T.pairs.length+(T.cuts.length+(T.kids.length+(T.kids.map (Az e)).sum+T.buf.length)))+52<=_
  have hp:4^(e+1)=4*4^e:=by rw[Nat.pow_succ];omega
  rcases h with⟨_,rfl,h1,h2,h3,h4⟩|⟨_,h1,h2,h3,h4,h5,h6⟩
  ·rw[h2,h3,h4]
   simp
   omega
  ·rw[h1,hp]
   have hk:=Uc T.kids (fun t=>12*Az e t+52) (25*4^e) (fun t ht=>LG e t (h6 t ht))
   have hm:(T.kids.map (fun t=>12*Az e t+52)).sum=12*(T.kids.map (Az e)).sum+52*T.kids.length:=by
    generalize T.kids=ts
    induction ts with
    |nil=>rfl
    |cons t ts ih=>
     simp only[List.map_cons,List.sum_cons,List.length_cons]
     omega
   have h0:=LG e (T.kids[0]'(by omega)) (h6 _ (List.getElem_mem _))
   simp only[List.length_nil]
   generalize 4^e=P at *
   generalize (T.kids.map (Az e)).sum=S at *
   generalize (T.kids.map (fun t=>12*Az e t+52)).sum=S2 at *
   generalize Az e (T.kids[0]'(by omega))=S4 at *
   generalize T.kids.length=k at *
   rcases(by omega:k=2∨k=3∨k=4) with rfl|rfl|rfl<;>omega
theorem Xc {T:Tr} (h:okT T=true):Az (Ag T) T<=34129:=by
 have h1:=Dt h
 have h2:=LG _ _ h1.1
 have:4^Ag T<=4^7:=Nat.pow_le_pow_right (by decide) h1.2.1
 have h7:(4:Nat)^7=16384:=by decide
 omega
theorem Aq.down:∀ {e n:Nat} {w:World} {F:Nat->Prop} {x:TV} {T:Tr},shT e T->Aq n w F x T->Aq e w F x T
 |0,_,_,_,_,_,h,_=>h.elim
 |_+1,0,_,_,_,_,_,h=>h.elim
 |e+1,n+1,w,F,x,T,hs,⟨h1,h2,h3,h4,xs,h5,h6,h7⟩=>by
  refine⟨h1,h2,h3,h4,xs,h5,h6,fun i hi=> ?_⟩
  rcases hs with⟨_,_,_,_,h,_⟩|⟨_,_,_,_,_,_,h⟩
  ·rw[h5,h] at hi;exact absurd hi (Nat.not_lt_zero _)
  ·exact Aq.down (h _ (Bd (by omega))) (h7 i hi)
theorem Te (n m:Nat) (hm:7<=m) (x:TV) (T:Tr) (F:Nat->Prop) (w:World) (ht:Aq n w F x T) (hok:okT T=true) :
  Calls Tryz.prog 22 #[x.val] w fun e w' =>∃y:TV,e= .returned y.val/\AD m w' (fun g=>w.heap.size<=g) y T/\Below w.heap.size w w' :=by
 have h1:=Dt hok
 have h2:=Xc hok
 exact(EX false (Ag T) x T F w ⟨(fun e=>by cases e),Aq.down h1.1 ht⟩ (by omega) (fun _=>by omega)).mono (fun e w' ⟨y,he,hy,hb⟩=>⟨y,he,hy.le (by omega),hb⟩)

structure In3 (w:World) (cs ds:List Value) (V:World):Prop where
 b:Below w.heap.size w V
 s:Bx V w.heap.size cs
 t:Bx V (w.heap.size+1) ds
 r:Bx V (w.heap.size+2) zcs
theorem In3.step {w V u:World} {cs ds:List Value} (h:In3 w cs ds V) (k:Below V.heap.size V u):In3 w cs ds u:=⟨Below.and h.b k,h.s.step k,h.t.step k,h.r.step k⟩
theorem In3.start (w:World) {cs ds:List Value} (h:cs.length=5) (k:ds.length=5):In3 w cs ds (((w.alloc (.cells cs.toArray 29)).alloc (.cells ds.toArray 29)).alloc (.cells zcs.toArray 29)):=by
 have h3:=Bx.start (w.alloc (.cells cs.toArray 29)) k
 have h4:=Bx.start ((w.alloc (.cells cs.toArray 29)).alloc (.cells ds.toArray 29)) (cs:=zcs) rfl
 rw[World.size_alloc] at h3
 rw[World.size_alloc,World.size_alloc] at h4
 exact⟨Below.and (al2 _ _ _) (al1 _ _),((Bx.start w h).step (al1 _ _)).step (al1 _ _),h3.step (al1 _ _),h4⟩
theorem Ib (d:Bool) (n1 n:Nat) (hn:7<=n) (x1 x:TV) (T1 T:Tr) (F1 F:Nat->Prop) (w:World) (h1:Aq n1 w F1 x1 T1) (h:Src d n w F x T) (hs:Az n T<=1048576) (hd:d=false->Az n T<=100000) :
  Calls Tryz.prog 23 #[x1.val,x.val] w fun e w' =>∃y:TV,e= .returned y.val/\AD n w' (fun g=>w.heap.size<=g) y (if okT T1=true then T1 else T)/\Below w.heap.size w w' :=by
 have OK:Hid (∀u,Below w.heap.size w u->Calls Tryz.prog 9 #[.agg x1.cells.toArray] u fun e w' =>e= .returned (.bool (okT T1))/\Below u.heap.size u w'):=fun u hu=>BP n1 x1 T1 u (h1.treeAt.below hu)
 have C1:Hid (okT T1=true->∀u,Below w.heap.size w u->Calls Tryz.prog 22 #[.agg x1.cells.toArray] u fun e w' =>∃y:TV,e= .returned y.val/\AD n w' (fun g=>u.heap.size<=g) y T1/\Below u.heap.size u w'):=fun hok u hu=>Te n1 n hn x1 T1 F1 u (h1.below hu) hok
 have C2:Hid (∀u,Below w.heap.size w u->Calls Tryz.prog 22 #[.agg x.cells.toArray] u fun e w' =>∃y:TV,e= .returned y.val/\AD n w' (fun g=>u.heap.size<=g) y T/\Below u.heap.size u w'):=fun u hu=>EX d n x T F u (h.below hu) hs hd
 have I0:=hid (In3.start w x1.cells_len x.cells_len)
 show Calls Tryz.prog 23 #[.agg x1.cells.toArray, .agg x.cells.toArray] w _
 clear h1 h;generalize x1.cells=cs at *
 generalize x.cells=ds at *
 go_enter Tryz.func23,Tryz.ntmps23
 go_upto_region 1 with fail
 refine Cj (In3 w cs ds) I0.out ?_
 rintro V IV
 clear I0;have I:=hid IV
 clear IV;go_wp2_with (refine ldT rfl rfl _ rfl w.heap.size rfl cs I.out.s ?_)
 refine Calls.mono (OK.out _ I.out.b) ?_
 rintro e w1 ⟨rfl,b1⟩
 replace I:=hid (I.out.step b1)
 clear b1 OK
 cases hok:okT T1
 ·clear C1;go_wp2_with (refine ldT rfl rfl _ rfl (w.heap.size+1) rfl ds I.out.t ?_)
  refine Calls.mono (C2.out _ I.out.b) ?_
  rintro e w2 ⟨y,rfl,TY,b2⟩
  obtain⟨f1,f2,f3⟩:=C9 I.out.r (by omega) I.out.b b2 TY
  have R1:=hid (And.intro (I.out.r.step b2) TY.treeF.treeAt.ones)
  have FF:=hid (And.intro f1 (And.intro f2 f3))
  clear f1 f2 f3 TY;go_wp2_with (refine stT rfl rfl _ _ rfl (w.heap.size+2) y rfl rfl R1.out.1 R1.out.2 ?_)
  all_goals exact⟨rfl,_,Lm Tryz.results23 _ _ _ y rfl FF.out.1,⟨y,rfl,FF.out.2.1,FF.out.2.2⟩⟩
 ·replace C1:=hid (C1.out hok)
  clear C2;go_wp2_with (refine ldT rfl rfl _ rfl w.heap.size rfl cs I.out.s ?_)
  refine Calls.mono (C1.out _ I.out.b) ?_
  rintro e w2 ⟨y,rfl,TY,b2⟩
  obtain⟨f1,f2,f3⟩:=C9 I.out.r (by omega) I.out.b b2 TY
  have R1:=hid (And.intro (I.out.r.step b2) TY.treeF.treeAt.ones)
  have FF:=hid (And.intro f1 (And.intro f2 f3))
  clear f1 f2 f3 TY;go_wp2_with (refine stT rfl rfl _ _ rfl (w.heap.size+2) y rfl rfl R1.out.1 R1.out.2 ?_)
  all_goals exact⟨rfl,_,Lm Tryz.results23 _ _ _ y rfl FF.out.1,⟨y,rfl,FF.out.2.1,FF.out.2.2⟩⟩
end
section
open Go.RowKit

theorem Pa (F:Nat->Prop) (y:TV) (T:Tr) (vm:Value) (ms:ML) (w:World) (ht:Aq 1 w F y T) (hm:Row w vm ms.length (Al ms)) (hl:T.leaf=true) (hn:T.pairs.length+ms.length<=1000000) :
  Calls Tryz.prog 25 #[y.val,vm] w fun e w' =>∃v1 v2,e= .returned (.agg #[v1,v2])/\Ad 1 w' (fun b=>F b∨w.heap.size<=b) v1 (leafM (Cn T.pairs ms)).1/\Aj w' (fun b=>F b∨w.heap.size<=b) v2 (leafM (Cn T.pairs ms)).2.length (Ab (leafM (Cn T.pairs ms)).2)/\Below w.heap.size w w' :=by
 obtain⟨r1,r2,r3,r4,s1,s2,s3,s4,hy⟩:=ht.treeAt.shape
 obtain⟨a5,q5,hvm,_⟩:=hm.len
 obtain⟨-,hp, -, -, -⟩:=ht.parts
 rw[hy] at hp ⊢
 simp only at hp
 rw[hl]
 subst hvm;have hlen:=Fy T.pairs ms
 have MA:Hid (∀w1,Below w.heap.size w w1->Calls Tryz.prog 40 #[.slice r1 T.pairs.length s1, .slice a5 ms.length q5] w1 _):=fun w1 hb=>Gu (.slice r1 T.pairs.length s1) (.slice a5 ms.length q5) T.pairs ms w1 (hp.row.below hb) (hm.below hb) (by omega)
 show Calls Tryz.prog 25 #[.agg #[.bool true, .slice r1 T.pairs.length s1, .slice r2 T.cuts.length s2, .slice r3 T.kids.length s3, .slice r4 T.buf.length s4], .slice a5 ms.length q5] w _
 clear hm hp ht hy;generalize T.cuts.length=z2 at *
 generalize T.kids.length=z3 at *
 generalize T.buf.length=z4 at *
 generalize Cn T.pairs ms=AL at *
 generalize T.pairs.length=z1 at *
 generalize ms.length=nm at *
 have LV:Hid (∀w1 (v:Value),w1.ownsRow (w.heap.size+2) 63 2 v AL.length (Au AL)->Calls Tryz.prog 53 #[v] w1 _):=fun w1 v o=>Pp (fun g=>v.ownBlock=some g) v AL w1 (Aj.of_owns o) (by omega)
 have hs:∀A B e f,((w.alloc (.cells A e)).alloc (.cells B f)).heap.size=w.heap.size+2:=fun A B e f=>by simp
 go_enter Tryz.func25,Tryz.ntmps25
 go_wp2_with fail;refine Calls.mono (MA.out _ (al2 _ _ _)) ?_
 rintro e w1 ⟨v1,rfl,o1,b1⟩
 rw[hs] at o1 b1
 have X1:Hid (Ai w1 (w.heap.size+1) #[.slice none 0 0, .slice none 0 0]):=(b1.block (w.heap.size+1) (by simp)).trans (by have:=heap_alloc_new (w.alloc (.cells #[.bool true, .slice r1 z1 s1, .slice r2 z2 s2, .slice r3 z3 s3, .slice r4 z4 s4] 29)) (.cells #[.slice none 0 0, .slice none 0 0] 52);simpa using this)
 have BW:Hid (Below w.heap.size w w1):=Below.and (al2 _ _ _) (by rw[hs];exact b1)
 have hs1:w.heap.size+2<=w1.heap.size:=by have:=b1.size;rw[hs] at this;exact this
 obtain⟨a6,q6,hv1,_⟩:=(Aj.of_owns o1).row.len
 subst hv1;have OL:Hid (∀h,(Value.slice a6 AL.length q6).ownBlock=some h->w.heap.size+2<=h/\h<w1.heap.size):=fun h k=>World.ownsRow.lt o1 h k
 have LC:Hid _:=LV.out w1 _ o1
 clear o1 b1 LV MA;go_wp2_with fail;refine Calls.mono LC.out ?_
 rintro e w2 ⟨v1,v2,rfl,t1,t2,b2⟩
 obtain⟨c1,y1,hv1,_⟩:=t1.els.choose_spec.2.row.len
 obtain⟨c2,y2,hv2,_⟩:=t2.row.len
 subst hv1 hv2;have X2:=X1.out.step b2
 obtain⟨g0,g1⟩:=X2.two
 obtain⟨g2,g3⟩:=X2.free
 have FIN:Hid (Ad 1 (setR w2 (w.heap.size+1) (.slice c1 (leafM AL).1.length y1) (.slice c2 (leafM AL).2.length y2)) (fun b=>F b∨w.heap.size<=b) (.slice c1 (leafM AL).1.length y1) (leafM AL).1/\Aj (setR w2 (w.heap.size+1) (.slice c1 (leafM AL).1.length y1) (.slice c2 (leafM AL).2.length y2)) (fun b=>F b∨w.heap.size<=b) (.slice c2 (leafM AL).2.length y2) (leafM AL).2.length (Ab (leafM AL).2)/\Below w.heap.size w (setR w2 (w.heap.size+1) (.slice c1 (leafM AL).1.length y1) (.slice c2 (leafM AL).2.length y2))/\Ai (setR w2 (w.heap.size+1) (.slice c1 (leafM AL).1.length y1) (.slice c2 (leafM AL).2.length y2)) (w.heap.size+1) #[.slice c1 (leafM AL).1.length y1, .slice c2 (leafM AL).2.length y2]):=by
  have D:∀h,(Value.slice a6 AL.length q6).ownBlock=some h∨w1.heap.size<=h->¬h=w.heap.size+1:=fun h hh e=>by
   rcases hh with hh|hh
   ·have:=OL.out h hh;omega
   ·omega
  have M1:∀h,(Value.slice a6 AL.length q6).ownBlock=some h∨w1.heap.size<=h->F h∨w.heap.size<=h:=fun h hh=>by
   rcases hh with hh|hh
   ·have:=OL.out h hh;exact .inr (by omega)
   ·exact .inr (by omega)
  exact⟨(t1.chg (Av w2 (w.heap.size+1) _ _) (fun h k=>D h k)).mono M1,(t2.chg (Av w2 (w.heap.size+1) _ _) (fun h k=>D h k)).mono M1,((Below.and BW.out b2).setCell (p:=⟨w.heap.size+1,0,none⟩) (Nat.le_succ _) _).setCell (p:=⟨w.heap.size+1,1,none⟩) (Nat.le_succ _) _,X2.set2 _ _⟩
 clear t1 t2 b2 X2 LC;go_wp2;have ZZ:=FIN.out.2.2.2.two
 exact bodyPost_ret (v:= .agg #[.slice c1 (leafM AL).1.length y1, .slice c2 (leafM AL).2.length y2]) (by simp[results,Tryz.results25,go_sem,ZZ.1,ZZ.2]) rfl ⟨_,_,rfl,FIN.out.1,FIN.out.2.1,FIN.out.2.2.1⟩
end
section
open Go.RowKit

theorem QW (k v:Int) (w:World):(method 293 149 (.agg #[.int .i64 k, .int .i64 v]) "loop.example/g00234/impl.key").run Tryz.prog w= .ok (156, .agg #[.int .i64 k, .int .i64 v]) w:=by kernel_rfl
theorem U4 (x:Value) (w:World):(callFunc 156 #[x]).run Tryz.prog w= .ok (.enter 156 #[x]) w:=by kernel_rfl
theorem K5 (k v:Int) (w:World):(method 293 149 (.agg #[.int .i64 k, .int .i64 v]) "loop.example/g00234/impl.msg").run Tryz.prog w= .ok (157, .agg #[.int .i64 k, .int .i64 v]) w:=by kernel_rfl
theorem Ob (x:Value) (w:World):(callFunc 157 #[x]).run Tryz.prog w= .ok (.enter 157 #[x]) w:=by kernel_rfl
theorem Ym (k v:Int) (w:World):Calls Tryz.prog 156 #[.agg #[.int .i64 k, .int .i64 v]] w fun e w' =>e= .returned (.int .i64 k)/\Below w.heap.size w w' :=by
 go_enter Tryz.func156,Tryz.ntmps156
 go_wp2;go_ret;exact⟨rfl,(Below.refl _ _).alloc (Nat.le_refl _) _⟩
theorem WA (k v:Int) (w:World):Calls Tryz.prog 157 #[.agg #[.int .i64 k, .int .i64 v]] w fun e w' =>e= .returned (.agg #[.int .i64 1, .int .i64 k, .int .i64 v])/\Below w.heap.size w w' :=by
 go_enter Tryz.func157,Tryz.ntmps157
 go_wp2;refine bodyPost_ret (v:= .agg #[.int .i64 1, .int .i64 k, .int .i64 v]) (by simp[results,Tryz.results157,go_sem]) rfl ⟨rfl, ?_⟩
 exact((Below.refl _ _).alloc (Nat.le_refl _) _).alloc (by simp) _
theorem Pm (k v:Int) (w:World):(method 293 153 (.agg #[.int .i64 k, .int .i64 v]) "loop.example/g00234/impl.key").run Tryz.prog w= .ok (160, .agg #[.int .i64 k, .int .i64 v]) w:=by kernel_rfl
theorem Vx (x:Value) (w:World):(callFunc 160 #[x]).run Tryz.prog w= .ok (.enter 160 #[x]) w:=by kernel_rfl
theorem P9 (k v:Int) (w:World):(method 293 153 (.agg #[.int .i64 k, .int .i64 v]) "loop.example/g00234/impl.msg").run Tryz.prog w= .ok (161, .agg #[.int .i64 k, .int .i64 v]) w:=by kernel_rfl
theorem UY (x:Value) (w:World):(callFunc 161 #[x]).run Tryz.prog w= .ok (.enter 161 #[x]) w:=by kernel_rfl
theorem XJ (k v:Int) (w:World):Calls Tryz.prog 160 #[.agg #[.int .i64 k, .int .i64 v]] w fun e w' =>e= .returned (.int .i64 k)/\Below w.heap.size w w' :=by
 go_enter Tryz.func160,Tryz.ntmps160
 go_wp2;go_ret;exact⟨rfl,(Below.refl _ _).alloc (Nat.le_refl _) _⟩
theorem XH (k v:Int) (w:World):Calls Tryz.prog 161 #[.agg #[.int .i64 k, .int .i64 v]] w fun e w' =>e= .returned (.agg #[.int .i64 3, .int .i64 k, .int .i64 v])/\Below w.heap.size w w' :=by
 go_enter Tryz.func161,Tryz.ntmps161
 go_wp2;refine bodyPost_ret (v:= .agg #[.int .i64 3, .int .i64 k, .int .i64 v]) (by simp[results,Tryz.results161,go_sem]) rfl ⟨rfl, ?_⟩
 exact((Below.refl _ _).alloc (Nat.le_refl _) _).alloc (by simp) _
theorem Px (k:Int) (w:World):(method 293 151 (.agg #[.int .i64 k]) "loop.example/g00234/impl.key").run Tryz.prog w= .ok (158, .agg #[.int .i64 k]) w:=by kernel_rfl
theorem Ut (x:Value) (w:World):(callFunc 158 #[x]).run Tryz.prog w= .ok (.enter 158 #[x]) w:=by kernel_rfl
theorem Qf (k:Int) (w:World):(method 293 151 (.agg #[.int .i64 k]) "loop.example/g00234/impl.msg").run Tryz.prog w= .ok (159, .agg #[.int .i64 k]) w:=by kernel_rfl
theorem Uz (x:Value) (w:World):(callFunc 159 #[x]).run Tryz.prog w= .ok (.enter 159 #[x]) w:=by kernel_rfl
theorem Xs (k:Int) (w:World):Calls Tryz.prog 158 #[.agg #[.int .i64 k]] w fun e w' =>e= .returned (.int .i64 k)/\Below w.heap.size w w' :=by
 go_enter Tryz.func158,Tryz.ntmps158
 go_wp2;go_ret;exact⟨rfl,(Below.refl _ _).alloc (Nat.le_refl _) _⟩
theorem XE (k:Int) (w:World):Calls Tryz.prog 159 #[.agg #[.int .i64 k]] w fun e w' =>e= .returned (.agg #[.int .i64 2, .int .i64 k, .int .i64 0])/\Below w.heap.size w w' :=by
 go_enter Tryz.func159,Tryz.ntmps159
 go_wp2;refine bodyPost_ret (v:= .agg #[.int .i64 2, .int .i64 k, .int .i64 0]) (by simp[results,Tryz.results159,go_sem]) rfl ⟨rfl, ?_⟩
 exact((Below.refl _ _).alloc (Nat.le_refl _) _).alloc (by simp) _
theorem Pc (k:Int) (w:World):(method 293 157 (.agg #[.int .i64 k]) "loop.example/g00234/impl.key").run Tryz.prog w= .ok (162, .agg #[.int .i64 k]) w:=by kernel_rfl
theorem UB (x:Value) (w:World):(callFunc 162 #[x]).run Tryz.prog w= .ok (.enter 162 #[x]) w:=by kernel_rfl
theorem PJ (k:Int) (w:World):(method 293 157 (.agg #[.int .i64 k]) "loop.example/g00234/impl.msg").run Tryz.prog w= .ok (163, .agg #[.int .i64 k]) w:=by kernel_rfl
theorem Vl (x:Value) (w:World):(callFunc 163 #[x]).run Tryz.prog w= .ok (.enter 163 #[x]) w:=by kernel_rfl
theorem X8 (k:Int) (w:World):Calls Tryz.prog 162 #[.agg #[.int .i64 k]] w fun e w' =>e= .returned (.int .i64 k)/\Below w.heap.size w w' :=by
 go_enter Tryz.func162,Tryz.ntmps162
 go_wp2;go_ret;exact⟨rfl,(Below.refl _ _).alloc (Nat.le_refl _) _⟩
theorem Xx (k:Int) (w:World):Calls Tryz.prog 163 #[.agg #[.int .i64 k]] w fun e w' =>e= .returned (.agg #[.int .i64 4, .int .i64 k, .int .i64 0])/\Below w.heap.size w w' :=by
 go_enter Tryz.func163,Tryz.ntmps163
 go_wp2;refine bodyPost_ret (v:= .agg #[.int .i64 4, .int .i64 k, .int .i64 0]) (by simp[results,Tryz.results163,go_sem]) rfl ⟨rfl, ?_⟩
 exact((Below.refl _ _).alloc (Nat.le_refl _) _).alloc (by simp) _

structure Chd (m:Int × Int × Int) (t:TypeId) (x:Value) (f g:FuncId):Prop where
 enc:Cr m= .iface t x
 hk:∀w,(method 293 t x "loop.example/g00234/impl.key").run Tryz.prog w= .ok (f,x) w
 ek:∀w,(callFunc f #[x]).run Tryz.prog w= .ok (.enter f #[x]) w
 ck:∀w,Calls Tryz.prog f #[x] w fun e w' =>e= .returned (.int .i64 m.2.1)/\Below w.heap.size w w'
 hm:∀w,(method 293 t x "loop.example/g00234/impl.msg").run Tryz.prog w= .ok (g,x) w
 em:∀w,(callFunc g #[x]).run Tryz.prog w= .ok (.enter g #[x]) w
 cm:∀w,Calls Tryz.prog g #[x] w fun e w' =>e= .returned (.agg #[.int .i64 m.1, .int .i64 m.2.1, .int .i64 m.2.2])/\Below w.heap.size w w'
 t99:∃z,∀w,(Instr.typeAssert (.iface t x) 119 149 true).run Tryz.prog w= .ok (.tuple #[z, .bool (m.1==1)]) w
 t105:∃z,∀w,(Instr.typeAssert (.iface t x) 119 151 true).run Tryz.prog w= .ok (.tuple #[z, .bool (m.1==2)]) w
 t107:∃z,∀w,(Instr.typeAssert (.iface t x) 119 157 true).run Tryz.prog w= .ok (.tuple #[z, .bool (m.1==4)]) w

theorem Xa {k v:Int} {o:Int} (ho:o=2∨o=4) (h:okM (o,k,v)=true):v=0:=by
 have h' :AK o k v=true:=h
 simp only[AK,Bool.and_eq_true,Bool.or_eq_true,beq_iff_eq] at h'
 omega

theorem Pq {m:Int × Int × Int} (h:okM m=true):∃t x f g,Chd m t x f g:=by
 obtain⟨o,k,v⟩:=m
 have ho:=(CG h).1
 rcases(show o=1∨o=2∨o=3∨o=4 from by simp only at ho;omega) with rfl|rfl|rfl|rfl
 ·exact⟨149,_,156,157,rfl,QW k v,U4 _,Ym k v,K5 k v,Ob _,WA k v,⟨_,LI k v⟩,⟨_,U9 k v⟩,⟨_,Uy k v⟩⟩
 ·have hv:=Xa (Or.inl rfl) h
  subst hv;exact⟨151,_,158,159,rfl,Px k,Ut _,Xs k,Qf k,Uz _,XE k,⟨_,Ki k⟩,⟨_,LK k⟩,⟨_,S6 k⟩⟩
 ·exact⟨153,_,160,161,rfl,Pm k v,Vx _,XJ k v,P9 k v,UY _,XH k v,⟨_,Kf k v⟩,⟨_,Mu k v⟩,⟨_,R9 k v⟩⟩
 ·have hv:=Xa (Or.inr rfl) h
  subst hv;exact⟨157,_,162,163,rfl,Pc k,UB _,X8 k,PJ k,Vl _,Xx k,⟨_,Kj k⟩,⟨_,Mf k⟩,⟨_,Nr k⟩⟩

theorem Row.changes {w:World} {v:Value} {l:ML} (h:Row w v l.length (l.map Cr)) :
  ∃(a:Option Addr) (b off cap:Nat),v= .slice a l.length cap/\l.length<=cap/\cap<=maxLen/\(0<l.length->a=some ⟨b,off,none⟩)/\(∀i,i<l.length->w.cell? ⟨b,off+i,none⟩=some (Cr (mO l i,mK l i,mV l i))):=by
 obtain⟨a,b,off,cap,h1,h2,h3,h4,h5,_⟩:=h
 exact⟨a,b,off,cap,h1,h2,h3,h4,fun i hi=>h5 _ _ (by rw[List.getElem?_map,List.getElem?_eq_getElem hi,DV l i hi];rfl)⟩
end
end Go.Proofs.YtnakaabnjelffaaGreat
