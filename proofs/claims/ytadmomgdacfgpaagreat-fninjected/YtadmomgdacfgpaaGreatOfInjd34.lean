/-
  The program's copyOfTree.
  Trees that are right are small; the program's copyOfEither.
  The contract of the program's give, for a leaf.
-/
import Derived.Test.YtadmomgdacfgpaaGreatOfInjd32
import Derived.Test.YtadmomgdacfgpaaGreatOfInjd33
import Derived.Test.YtadmomgdacfgpaaGreatOfInjd24
import Derived.Test.YtadmomgdacfgpaaGreatOfInjd7
import Derived.Test.YtadmomgdacfgpaaGreatOfInjd12
import Derived.Test.YtadmomgdacfgpaaGreatOfInjd29
import Derived.Test.YtadmomgdacfgpaaGreatOfInjd30
import Derived.Test.YtadmomgdacfgpaaGreatOfInjd31
namespace Go.Proofs.YtadmomgdacfgpaaGreat
set_option maxRecDepth 100000
set_option maxHeartbeats 8000000
section
open Go.RowKit

def PQ (S C:Nat) (w:World):Nat:=Qx ((w.cell? ⟨C,1,none⟩).getD (.bool true))+(S-(intOf ((w.cell? ⟨C,2,none⟩).getD (.bool true))).toNat)
theorem Qj {S C cp:Nat} {w:World} {x0:Value} {a:Option Addr} {m q:Nat} (h:Df w C #[x0, .slice a m q, .int .i64 (cp:Nat)]):PQ S C w=m+(S-cp):=by
 obtain⟨_,h1,h2⟩:=h.three
 unfold PQ;rw[h1,h2]
 simp[Qx,intOf]
def CM (w:World) (a b c d e:Value):World:=(((((w.alloc (.cells #[a,b,c,d,e] 30)).alloc (.cells #[.bool false, .slice none 0 0, .slice none 0 0, .slice none 0 0, .slice none 0 0] 30)).alloc (.map #[] 0)).alloc (.cells #[.pointer (some ⟨w.heap.size,0,none⟩)] 91)).alloc (.cells #[.map (some (w.heap.size+1+1)), .slice (some ⟨w.heap.size+1+1+1,0,none⟩) 1 1, .int .i64 0] 94))
def VH (w:World) (n:Nat) (T:Tr) (u:World):Prop:=∃(y:TV) (G:Nat->Prop),Holds u w.heap.size 0 y/\AD n u G y T/\∀g,G g->w.heap.size+5<=g

theorem TQ {d:Bool} {n:Nat} {T:Tr} {F:Nat->Prop} {w:World} {x:TV} (h:Src d n w F x T) (hz:AU n T<=1048576):Ci d (kz n T) w (CM w (.bool x.lf) x.p x.c x.k x.b) (w.heap.size+4) (w.heap.size+2) [⟨w.heap.size,0,x,T,n,F⟩] (.slice (some ⟨w.heap.size+3,0,none⟩) 1 1) 0 (fun _=>False) (VH w n T)/\(CM w (.bool x.lf) x.p x.c x.k x.b).heap[w.heap.size+1]? =some (.cells #[.bool false, .slice none 0 0, .slice none 0 0, .slice none 0 0, .slice none 0 0] 30 (0,0)):=by
 have e:∀(x:World) (o:Obj),(x.alloc o).heap.size=x.heap.size+1:=fun x o=>by simp
 have k1:∀(x:World) (o:Obj) (g:Nat),g<x.heap.size->(x.alloc o).heap[g]? =x.heap[g]? :=fun x o g hg=>((Below.refl x.heap.size x).alloc (Nat.le_refl _) o).block g hg
 have hs:(CM w (.bool x.lf) x.p x.c x.k x.b).heap.size=w.heap.size+5:=by unfold CM;simp
 have h0:(CM w (.bool x.lf) x.p x.c x.k x.b).heap[w.heap.size]? =some (.cells #[.bool x.lf,x.p,x.c,x.k,x.b] 30 (0,0)):=by
  unfold CM;rw[k1 _ _ _ (by simp only[World.size_alloc];omega),k1 _ _ _ (by simp only[World.size_alloc];omega),k1 _ _ _ (by simp only[World.size_alloc];omega),k1 _ _ _ (by simp only[World.size_alloc];omega)]
  exact heap_alloc_new w _
 have h1:(CM w (.bool x.lf) x.p x.c x.k x.b).heap[w.heap.size+1]? =some (.cells #[.bool false, .slice none 0 0, .slice none 0 0, .slice none 0 0, .slice none 0 0] 30 (0,0)):=by
  unfold CM;rw[k1 _ _ _ (by simp only[World.size_alloc];omega),k1 _ _ _ (by simp only[World.size_alloc];omega),k1 _ _ _ (by simp only[World.size_alloc];omega)]
  exact D9 (by simp)
 have h2:(CM w (.bool x.lf) x.p x.c x.k x.b).heap[w.heap.size+2]? =some (.map #[] 0):=by
  unfold CM;rw[k1 _ _ _ (by simp only[World.size_alloc];omega),k1 _ _ _ (by simp only[World.size_alloc];omega)]
  exact D9 (by simp)
 have h3:(CM w (.bool x.lf) x.p x.c x.k x.b).heap[w.heap.size+3]? =some (.cells #[.pointer (some ⟨w.heap.size,0,none⟩)] 91 (0,0)):=by
  unfold CM;rw[k1 _ _ _ (by simp only[World.size_alloc];omega)]
  exact D9 (by simp)
 have h4:(CM w (.bool x.lf) x.p x.c x.k x.b).heap[w.heap.size+4]? =some (.cells #[.map (some (w.heap.size+2)), .slice (some ⟨w.heap.size+3,0,none⟩) 1 1, .int .i64 0] 94 (0,0)):=by
  unfold CM;exact D9 (by simp)
 have hb:Below w.heap.size w (CM w (.bool x.lf) x.p x.c x.k x.b):=by
  unfold CM;exact(((((Below.refl _ _).alloc (Nat.le_refl _) _).alloc (by simp) _).alloc (by simp;omega) _).alloc (by simp;omega) _).alloc (by simp;omega) _
 refine⟨⟨h4,⟨#[],0,h2,fun e he=>by simp at he⟩, ?_,fun g hg=> ?_,hb,by omega,by omega,fun g hg=>hg.elim,fun p hp=> ?_,fun p hp=> ?_,fun p hp=> ?_,List.pairwise_singleton _ _,fun _=>⟨List.pairwise_singleton _ _,fun p _ g _ hg=>hg⟩, ?_, ?_, ?_,fun p hp=>by simp at hp;subst hp;exact hz⟩,h1⟩
 ·refine .inl ⟨rfl, .inr ⟨_,_,_,rfl,Nat.zero_le _,h3,Nat.le_refl _,by decide,rfl,rfl⟩⟩
 ·obtain⟨_,_,he,_⟩:=hg
  simp at he
  omega
 ·simp at hp
  subst hp;exact⟨_,h0,rfl,rfl,rfl,rfl,rfl⟩
 ·simp at hp
  subst hp;exact Nat.le_refl _
 ·simp at hp
  subst hp;exact h
 ·rw[I4]
  simp
 ·rw[I4]
  simp
  omega
 ·exact Mi.first (w:=CM w (.bool x.lf) x.p x.c x.k x.b) _ _ (Nat.le_refl _) (fun u' y G hy ht hg=>⟨y,G,hy,ht,fun g hG=>by have:=hg g hG;omega⟩)

theorem FP (d:Bool) (n:Nat) (x:TV) (T:Tr) (F:Nat->Prop) (w:World) (ht:Src d n w F x T) (hs:AU n T<=1048576) (hd:d=false->AU n T<=100000) :
  Calls Tryz.prog 28 #[x.val] w fun e w' =>∃y:TV,e= .returned y.val/\AD n w' (fun g=>w.heap.size<=g) y T/\Below w.heap.size w w' :=by
 have hS:kz n T<=1048576:=Nat.le_trans (We n T) hs
 have HD:Hid (d=false->kz n T<=100000):=fun e=>Nat.le_trans (We n T) (hd e)
 obtain⟨CI,RB⟩:=TQ ht hs
 have I0:Hid (∃(ps:List Pd) (vl:Value) (cp:Nat) (V:Nat->Prop),Ci d (kz n T) w (CM w (.bool x.lf) x.p x.c x.k x.b) (w.heap.size+4) (w.heap.size+2) ps vl cp V (VH w n T)/\Eo ([]:List Pd) (CM w (.bool x.lf) x.p x.c x.k x.b) (CM w (.bool x.lf) x.p x.c x.k x.b)/\∃z0 z1 z2 z3 z4,(CM w (.bool x.lf) x.p x.c x.k x.b).heap[w.heap.size+1]? =some (.cells #[z0,z1,z2,z3,z4] 30 (0,0))):=⟨_,_,_,_,CI,Eo.refl _ _,_,_,_,_,_,RB⟩
 obtain⟨xl,xp,xc,xk,xb⟩:=x
 clear ht hd CI RB hs;generalize kz n T=S at *
 have hmk:∀W:World,(Instr.makeMap 90 none).run Tryz.prog W= .ok (.map (some W.heap.size)) (W.alloc (.map #[] 0)):=fun _=>rfl
 show Calls Tryz.prog 28 #[.agg #[.bool xl,xp,xc,xk,xb]] w _
 go_enter Tryz.func28,Tryz.ntmps28
 go_wp2;clear hmk;go_loopw [4] (fun _ wr=>Hid (∃(ps:List Pd) (vl:Value) (cp:Nat) (V:Nat->Prop),Ci d S w wr (w.heap.size+1+1+1+1) (w.heap.size+2) ps vl cp V (VH w n T)/\∃z0 z1 z2 z3 z4,wr.heap[w.heap.size+1]? =some (.cells #[z0,z1,z2,z3,z4] 30 (0,0))))
  (fun _ wr=>PQ S (w.heap.size+1+1+1+1) wr)
 case atStart=>
  obtain⟨ps,vl,cp,V,h1,_,h2⟩:=I0.out
  exact⟨ps,vl,cp,V,h1,h2⟩
 case round=>
  clear I0;obtain⟨ps,vl,cp,V,hci,z0,z1,z2,z3,z4,hrb⟩:=hrel.out
  clear hrel;obtain⟨al,ql,hvl⟩:=hci.shape
  subst hvl;obtain⟨c0,c1,c2⟩:=hci.bx.three
  have CIH:=hid (hci)
  have HRB:=hid (hrb)
  clear hci hrb;rcases List.eq_nil_or_concat ps with hps|⟨qs,p,hps⟩
  ·subst hps;obtain⟨⟨yl,yp,yc,yk,yb⟩,G,hy,hty,hG⟩:=CIH.out.kon.last
   obtain⟨r1,r2,r3,r4,z5,z6,z7,z8,s1,s2,s3,s4,hx⟩:=hty.treeF.slices
   simp only[TV.mk.injEq,true_and] at hx
   obtain⟨hx1,hx2,hx3,hx4⟩:=hx
   subst hx1 hx2 hx3 hx4;obtain⟨k0,k1,k2,k3,k4,kf⟩:=hy.cells
   simp only[Nat.zero_add] at k0 k1 k2 k3 k4
   simp only[List.length_nil] at c1
   have bz:A8 wr (w.heap.size+1) #[z0,z1,z2,z3,z4]:=HRB.out
   have z8c:=bz.cells
   have z9:=bz.free
   have Z:=(bz.set5 (.bool yl) (.slice r1 z5 s1) (.slice r2 z6 s2) (.slice r3 z7 s3) (.slice r4 z8 s4)).cells
   have FIN:Hid (AD n (Ha wr (w.heap.size+1) (.bool yl) (.slice r1 z5 s1) (.slice r2 z6 s2) (.slice r3 z7 s3) (.slice r4 z8 s4)) (fun g=>w.heap.size<=g) ⟨yl, .slice r1 z5 s1, .slice r2 z6 s2, .slice r3 z7 s3, .slice r4 z8 s4⟩ T/\Below w.heap.size w (Ha wr (w.heap.size+1) (.bool yl) (.slice r1 z5 s1) (.slice r2 z6 s2) (.slice r3 z7 s3) (.slice r4 z8 s4))):=
    ⟨(hty.chg (Dx wr (w.heap.size+1) _ _ _ _ _) (fun g hg e=>by have:=hG g hg;omega)).mono (fun g hg=>by have:=hG g hg;omega),Dk CIH.out.bw (Nat.le_succ _) _ _ _ _ _⟩
   have HZ2:Hid _:=Z
   clear CIH HRB bz hy hty hG c0 c2 Z;go_wp2;have Z:=HZ2.out
   refine bodyPost_ret (v:= .agg #[.bool yl, .slice r1 z5 s1, .slice r2 z6 s2, .slice r3 z7 s3, .slice r4 z8 s4]) (by simp[results,Tryz.results28,go_sem,Z]) rfl ⟨⟨yl, .slice r1 z5 s1, .slice r2 z6 s2, .slice r3 z7 s3, .slice r4 z8 s4⟩,rfl,FIN.out.1,FIN.out.2⟩
  ·rw[List.concat_eq_append] at hps
   subst hps;obtain⟨g,q,hv,hq,hcell,MID⟩:=CIH.out.pop
   have hlen:(qs++[p]).length=qs.length+1:=by simp
   rw[hlen] at c1 hv
   injection hv with e1 e2 e3
   subst e1 e3;have hcnt:=CIH.out.cnt
   have hsum:=CIH.out.sum
   rw[hlen] at hcnt
   have hm:qs.length<=1048576:=by omega
   have fr:=CIH.out.bx.free 1
   have hsrc:=CIH.out.src p (by simp)
   have hszp:=CIH.out.sz p (by simp)
   have hpb:p.b<wr.heap.size:=(CIH.out.ho p (by simp)).lt
   obtain⟨b,o,⟨yl,yp,yc,yk,yb⟩,PT,pn,PF⟩:=p
   cases pn with
   |zero=>exact hsrc.not0.elim
   |succ n'=>
   obtain⟨r1,r2,r3,r4,z5,z6,z7,z8,s1,s2,s3,s4,hx⟩:=hsrc.2.slices
   simp only[TV.mk.injEq,true_and] at hx
   obtain⟨hx1,hx2,hx3,hx4⟩:=hx
   subst hx1 hx2 hx3 hx4;obtain⟨hlf,R1,R2,R3,xs,KF,hxl,RK,SK,DD⟩:=hsrc.parts
   simp only at hlf R1 R2 R3 hxl RK SK DD hszp hpb
   rw[Lm] at hszp
   have hkz:=Rq (K0:=0) hxl SK
   have hge:=Ok xs xs.length (Nat.le_refl _)
   have hpot:Jp (qs++[⟨b,o,⟨yl, .slice r1 z5 s1, .slice r2 z6 s2, .slice r3 z7 s3, .slice r4 z8 s4⟩,PT,n' +1,PF⟩])=Jp qs+kz (n' +1) PT:=by rw[Gd,I4]
   rw[hpot] at hsum hcnt
   have CL1:=hid (fun u (hu:Below w.heap.size w u)=>Ob _ _ _ u (R1.below hu).row (Cr _) (El _) (by omega))
   have CL2:=hid (fun u (hu:Below w.heap.size w u)=>Nu _ _ _ u (R2.below hu).row (by rw[Bo];omega) (B9 _) (by omega))
   have CL3:=hid (fun u (hu:Below w.heap.size w u)=>Ny _ _ _ u (R3.below hu).row (Dj _) (Fq _) (by omega))
   have KC:Hid (∀(u:World) (y:TV) (vl:Value),Mid w wr u (w.heap.size+1+1+1+1) (w.heap.size+2) ⟨b,o,⟨yl, .slice r1 z5 s1, .slice r2 z6 s2, .slice r3 z7 s3, .slice r4 z8 s4⟩,PT,n' +1,PF⟩ y vl (qs.map Pd.ptr) cp V->Calls Tryz.prog 62 #[.pointer (some ⟨w.heap.size+1+1+1+1,0,none⟩), .slice r3 z7 s3] u fun e w' =>∃(vk vl' :Value) (K bb:Nat),e= .returned vk/\(0<xs.length->(∃Q,vk= .slice (some ⟨K,0,none⟩) xs.length Q)/\∃o q,Value.slice r3 z7 s3= .slice (some ⟨bb,o,none⟩) xs.length q)/\Aj w' u.heap.size 30 5 vk xs.length (Ao xs)/\Chg (fun g=>g=w.heap.size+1+1+1+1∨g=w.heap.size+2∨wrB vl g) u w' ∧Mid w wr w' (w.heap.size+1+1+1+1) (w.heap.size+2) ⟨b,o,⟨yl, .slice r1 z5 s1, .slice r2 z6 s2, .slice r3 z7 s3, .slice r4 z8 s4⟩,PT,n' +1,PF⟩ y vl' (qs.map Pd.ptr++FG K xs.length) (cp+Ck xs xs.length) (fun g=>V g∨(0<xs.length/\g=bb))):=by
    intro u y vl hmid;refine(S7 _ _ V (fun g=>PF g/\g<w.heap.size) (.slice r3 z7 s3) xs vl (qs.map Pd.ptr) cp u hmid.bx hmid.md hmid.lf ((RK.lt (G9 _).2).below hmid.bw) (QN (fun i hi=>(SK i hi).2.slices)) (fun i hi=>(SK i hi).2.slices) (by omega) (by rw[List.length_map];exact hm) (by omega) ?_ ?_ ?_).mono ?_
    ·intro b' o' q' he h0
     cases d with
     |false=>exact .inr (by have:=HD.out rfl;omega)
     |true=>
      obtain⟨e1,e2,e3⟩:=DD rfl
      obtain⟨g',q2,he2,hg',_⟩:=e1 h0
      rw[he2] at he
      have hbe:b' =g' :=by simpa[Value.ownBlock] using(congrArg Value.ownBlock he).symm
      subst hbe;exact .inl ((CIH.out.dis rfl).2 _ (List.mem_append.2 (.inr (List.mem_singleton.2 rfl))) _ hg')
    ·intro g' hg';have h1:=hmid.hv g' hg'
     have h2:=hmid.bw.size
     exact⟨by omega,fun hw=>by have:=hmid.lo g' hw;omega⟩
    ·intro g' hg' hw;have:=hmid.lo g' hw
     omega
    ·rintro e w' ⟨vk,vl',K,bb,he,hk0,hk1,hk2,hk3,hk4,hk5,hk6⟩
     refine⟨vk,vl',K,bb,he,fun h0=>⟨(hk0 h0).1,(hk0 h0).2.2⟩,hk3,hk6,hmid.kids hk6 hk1 hk4 hk2 hk5 (fun g' hg' => ?_)⟩
     rcases hg' with hg' | ⟨h0,rfl⟩
     ·exact hmid.hv g' hg'
     ·exact(hk0 h0).2.1.2
   have MM:Hid _:=MID
   have NX:Hid _:=And.intro hlf (And.intro hxl (And.intro SK DD))
   have HZ:Hid (cp+Ck xs xs.length<=S/\xs.length<=Ck xs xs.length):=⟨by omega,hge⟩
   have hc1:=MID.ho.cells.2.1
   clear MID e2 hlen hcnt hsum c0 c2 hlf R1 R2 R3 hxl RK SK DD hszp hsrc hkz hge hpot;unfold Pd.ptr at hcell
   simp only at hcell hc1
   generalize hqm:qs.length=m at *
   have HQM:=hid (hqm)
   clear hqm;have hpos:(0:Int)<((m+1:Nat):Int):=by omega
   have hsub:((m+1:Nat):Int)-1=(m:Int):=by omega
   have hw1:IntKind.i64.wrap (((m+1:Nat):Int)-1)=(m:Int):=by rw[IntKind.wrap_i64];omega
   have hb1:(0:Int)<=(m:Int):=by omega
   have hb2:(m:Int)<((m+1:Nat):Int):=by omega
   have hb3:(m:Int)<=(ql:Int):=by omega
   go_wp2_with fail;clear c1 fr hpos hsub hw1 hb1 hb2 hb3 hcell hc1;generalize wr.setCell ⟨w.heap.size+1+1+1+1,1,none⟩ (.slice (some ⟨g,0,none⟩) m ql)=u1 at *
   refine(CL1.out u1 MM.out.bw).mono ?_
   rintro e u2 ⟨vp,rfl,o1,b1⟩
   obtain⟨a1,t1,hvp⟩:=o1.slice
   subst hvp;have M2:Hid (Mid w wr u2 (w.heap.size+1+1+1+1) (w.heap.size+2) ⟨b,o,⟨yl, .slice r1 z5 s1, .slice r2 z6 s2, .slice r3 z7 s3, .slice r4 z8 s4⟩,PT,n' +1,PF⟩ ⟨yl, .slice r1 z5 s1, .slice r2 z6 s2, .slice r3 z7 s3, .slice r4 z8 s4⟩ (.slice (some ⟨g,0,none⟩) m ql) (qs.map Pd.ptr) cp V):=MM.out.below b1
   have O1:Hid (Aj (u2.setCell ⟨b,o+1,none⟩ (.slice a1 PT.pairs.length t1)) wr.heap.size 41 2 (.slice a1 PT.pairs.length t1) PT.pairs.length (Aq PT.pairs)):=M2.out.own hpb (o1.mono MM.out.on.1) (o+1) _
   have M3:Hid (Mid w wr (u2.setCell ⟨b,o+1,none⟩ (.slice a1 PT.pairs.length t1)) (w.heap.size+1+1+1+1) (w.heap.size+2) ⟨b,o,⟨yl, .slice r1 z5 s1, .slice r2 z6 s2, .slice r3 z7 s3, .slice r4 z8 s4⟩,PT,n' +1,PF⟩ ⟨yl, .slice a1 PT.pairs.length t1, .slice r2 z6 s2, .slice r3 z7 s3, .slice r4 z8 s4⟩ (.slice (some ⟨g,0,none⟩) m ql) (qs.map Pd.ptr) cp V):=M2.out.set 1 _ (.inl ⟨rfl,rfl⟩)
   obtain⟨hc0,hc1,hc2,hc3,hc4,hfr⟩:=M2.out.ho.cells
   have hd2:=M3.out.ho.cells.2.2.1
   simp only at hc0 hc1 hc2 hc3 hc4 hfr hd2
   clear o1 b1 MM;go_wp2_with fail;clear hc0 hc1 hc2 hc3 hc4 hfr hd2 M2;generalize u2.setCell ⟨b,o+1,none⟩ (.slice a1 PT.pairs.length t1)=u3 at *
   refine(CL2.out u3 M3.out.bw).mono ?_
   rintro e u4 ⟨vc,rfl,o2,b2⟩
   obtain⟨a2,t2,hvc⟩:=o2.slice
   subst hvc;have M4:Hid (Mid w wr u4 (w.heap.size+1+1+1+1) (w.heap.size+2) ⟨b,o,⟨yl, .slice r1 z5 s1, .slice r2 z6 s2, .slice r3 z7 s3, .slice r4 z8 s4⟩,PT,n' +1,PF⟩ ⟨yl, .slice a1 PT.pairs.length t1, .slice r2 z6 s2, .slice r3 z7 s3, .slice r4 z8 s4⟩ (.slice (some ⟨g,0,none⟩) m ql) (qs.map Pd.ptr) cp V):=M3.out.below b2
   have O1b:Hid (Aj (u4.setCell ⟨b,o+2,none⟩ (.slice a2 PT.cuts.length t2)) wr.heap.size 41 2 (.slice a1 PT.pairs.length t1) PT.pairs.length (Aq PT.pairs)):=M4.out.own hpb (O1.out.below b2) (o+2) _
   have O2:Hid (Aj (u4.setCell ⟨b,o+2,none⟩ (.slice a2 PT.cuts.length t2)) wr.heap.size 3 1 (.slice a2 PT.cuts.length t2) PT.cuts.length (Ad PT.cuts)):=M4.out.own hpb (o2.mono M3.out.on.1) (o+2) _
   have M5:Hid (Mid w wr (u4.setCell ⟨b,o+2,none⟩ (.slice a2 PT.cuts.length t2)) (w.heap.size+1+1+1+1) (w.heap.size+2) ⟨b,o,⟨yl, .slice r1 z5 s1, .slice r2 z6 s2, .slice r3 z7 s3, .slice r4 z8 s4⟩,PT,n' +1,PF⟩ ⟨yl, .slice a1 PT.pairs.length t1, .slice a2 PT.cuts.length t2, .slice r3 z7 s3, .slice r4 z8 s4⟩ (.slice (some ⟨g,0,none⟩) m ql) (qs.map Pd.ptr) cp V):=M4.out.set 2 _ (.inr (.inl ⟨rfl,rfl⟩))
   obtain⟨hc0,hc1,hc2,hc3,hc4,hfr⟩:=M4.out.ho.cells
   have hd3:=M5.out.ho.cells.2.2.2.1
   simp only at hc0 hc1 hc2 hc3 hc4 hfr hd3
   clear o2 b2 M3 O1;go_wp2_with fail;clear hc0 hc1 hc2 hc3 hc4 hfr hd3 M4;generalize u4.setCell ⟨b,o+2,none⟩ (.slice a2 PT.cuts.length t2)=u5 at *
   refine(KC.out u5 _ _ M5.out).mono ?_
   rintro e u6 ⟨vk,vl',K,bb,rfl,hk0,o3,c3,m6⟩
   obtain⟨a3,t3,hvk⟩:=o3.slice
   subst hvk;have HK0:Hid (0<xs.length->(∃Q,Value.slice a3 xs.length t3= .slice (some ⟨K,0,none⟩) xs.length Q)/\∃o q,Value.slice r3 z7 s3= .slice (some ⟨bb,o,none⟩) xs.length q):=hk0
   have M6:Hid (Mid w wr u6 (w.heap.size+1+1+1+1) (w.heap.size+2) ⟨b,o,⟨yl, .slice r1 z5 s1, .slice r2 z6 s2, .slice r3 z7 s3, .slice r4 z8 s4⟩,PT,n' +1,PF⟩ ⟨yl, .slice a1 PT.pairs.length t1, .slice a2 PT.cuts.length t2, .slice r3 z7 s3, .slice r4 z8 s4⟩ vl' (qs.map Pd.ptr++FG K xs.length) (cp+Ck xs xs.length) (fun g=>V g∨(0<xs.length/\g=bb))):=m6
   have O1:Hid (Aj (u6.setCell ⟨b,o+3,none⟩ (.slice a3 xs.length t3)) wr.heap.size 41 2 (.slice a1 PT.pairs.length t1) PT.pairs.length (Aq PT.pairs)):=M6.out.own hpb (M5.out.ownKids c3 O1b.out (.inl rfl)) (o+3) _
   have O2b:Hid (Aj (u6.setCell ⟨b,o+3,none⟩ (.slice a3 xs.length t3)) wr.heap.size 3 1 (.slice a2 PT.cuts.length t2) PT.cuts.length (Ad PT.cuts)):=M6.out.own hpb (M5.out.ownKids c3 O2.out (.inr (.inl rfl))) (o+3) _
   have O3:Hid (Aj (u6.setCell ⟨b,o+3,none⟩ (.slice a3 xs.length t3)) wr.heap.size 30 5 (.slice a3 xs.length t3) xs.length (Ao xs)):=M6.out.own hpb (o3.mono M5.out.on.1) (o+3) _
   have M7:Hid (Mid w wr (u6.setCell ⟨b,o+3,none⟩ (.slice a3 xs.length t3)) (w.heap.size+1+1+1+1) (w.heap.size+2) ⟨b,o,⟨yl, .slice r1 z5 s1, .slice r2 z6 s2, .slice r3 z7 s3, .slice r4 z8 s4⟩,PT,n' +1,PF⟩ ⟨yl, .slice a1 PT.pairs.length t1, .slice a2 PT.cuts.length t2, .slice a3 xs.length t3, .slice r4 z8 s4⟩ vl' (qs.map Pd.ptr++FG K xs.length) (cp+Ck xs xs.length) (fun g=>V g∨(0<xs.length/\g=bb))):=M6.out.set 3 _ (.inr (.inr (.inl ⟨rfl,rfl⟩)))
   obtain⟨hc0,hc1,hc2,hc3,hc4,hfr⟩:=M6.out.ho.cells
   have hd4:=M7.out.ho.cells.2.2.2.2.1
   simp only at hc0 hc1 hc2 hc3 hc4 hfr hd4
   clear o3 c3 m6 hk0 M5 O1b O2 KC;go_wp2_with fail;clear hc0 hc1 hc2 hc3 hc4 hfr hd4 M6;generalize u6.setCell ⟨b,o+3,none⟩ (.slice a3 xs.length t3)=u7 at *
   refine(CL3.out u7 M7.out.bw).mono ?_
   rintro e u8 ⟨vb,rfl,o4,b4⟩
   obtain⟨a4,t4,hvb⟩:=o4.slice
   subst hvb;have M8:Hid (Mid w wr u8 (w.heap.size+1+1+1+1) (w.heap.size+2) ⟨b,o,⟨yl, .slice r1 z5 s1, .slice r2 z6 s2, .slice r3 z7 s3, .slice r4 z8 s4⟩,PT,n' +1,PF⟩ ⟨yl, .slice a1 PT.pairs.length t1, .slice a2 PT.cuts.length t2, .slice a3 xs.length t3, .slice r4 z8 s4⟩ vl' (qs.map Pd.ptr++FG K xs.length) (cp+Ck xs xs.length) (fun g=>V g∨(0<xs.length/\g=bb))):=M7.out.below b4
   have P1:Hid (Aj (u8.setCell ⟨b,o+4,none⟩ (.slice a4 PT.buf.length t4)) wr.heap.size 41 2 (.slice a1 PT.pairs.length t1) PT.pairs.length (Aq PT.pairs)):=M8.out.own hpb (O1.out.below b4) (o+4) _
   have P2:Hid (Aj (u8.setCell ⟨b,o+4,none⟩ (.slice a4 PT.buf.length t4)) wr.heap.size 3 1 (.slice a2 PT.cuts.length t2) PT.cuts.length (Ad PT.cuts)):=M8.out.own hpb (O2b.out.below b4) (o+4) _
   have P3:Hid (Aj (u8.setCell ⟨b,o+4,none⟩ (.slice a4 PT.buf.length t4)) wr.heap.size 30 5 (.slice a3 xs.length t3) xs.length (Ao xs)):=M8.out.own hpb (O3.out.below b4) (o+4) _
   have P4:Hid (Aj (u8.setCell ⟨b,o+4,none⟩ (.slice a4 PT.buf.length t4)) wr.heap.size 35 3 (.slice a4 PT.buf.length t4) PT.buf.length (Af PT.buf)):=M8.out.own hpb (o4.mono M7.out.on.1) (o+4) _
   have M9:Hid (Mid w wr (u8.setCell ⟨b,o+4,none⟩ (.slice a4 PT.buf.length t4)) (w.heap.size+1+1+1+1) (w.heap.size+2) ⟨b,o,⟨yl, .slice r1 z5 s1, .slice r2 z6 s2, .slice r3 z7 s3, .slice r4 z8 s4⟩,PT,n' +1,PF⟩ ⟨yl, .slice a1 PT.pairs.length t1, .slice a2 PT.cuts.length t2, .slice a3 xs.length t3, .slice a4 PT.buf.length t4⟩ vl' (qs.map Pd.ptr++FG K xs.length) (cp+Ck xs xs.length) (fun g=>V g∨(0<xs.length/\g=bb))):=M8.out.set 4 _ (.inr (.inr (.inr ⟨rfl,rfl⟩)))
   obtain⟨hc0,hc1,hc2,hc3,hc4,hfr⟩:=M8.out.ho.cells
   simp only at hc0 hc1 hc2 hc3 hc4 hfr
   clear o4 b4 M7 O1 O2b O3 CL1 CL2 CL3;have CN:Hid (∃(ps:List Pd) (vl:Value) (cp:Nat) (V:Nat->Prop),Ci d S w (u8.setCell ⟨b,o+4,none⟩ (.slice a4 PT.buf.length t4)) (w.heap.size+1+1+1+1) (w.heap.size+2) ps vl cp V (VH w n T)/\∃z0 z1 z2 z3 z4,(u8.setCell ⟨b,o+4,none⟩ (.slice a4 PT.buf.length t4)).heap[w.heap.size+1]? =some (.cells #[z0,z1,z2,z3,z4] 30 (0,0))):=by
    obtain⟨hlf,hxl,SK,DD⟩:=NX.out
    refine⟨_,vl',_,_,Ci.next (K:=K) (b:=bb) (KF:=KF) CIH.out rfl M9.out hlf P1.out P2.out P4.out hxl P3.out (fun h0=>(HK0.out h0).1) SK (fun hdt=> ?_), ?_⟩
    ·obtain⟨e1,e2,e3⟩:=DD hdt
     refine⟨fun h0=> ?_,e2,e3⟩
     obtain⟨g',q2,he2,hg',hg2⟩:=e1 h0
     obtain⟨o',q',he⟩:=(HK0.out h0).2
     rw[he2] at he
     have hbe:bb=g' :=by simpa[Value.ownBlock] using(congrArg Value.ownBlock he).symm
     subst hbe;exact⟨hg',hg2⟩
    ·obtain⟨c',h1,h2,_⟩:=M9.out.on.2 _ _ _ (.inr (.inr (.inr rfl))) HRB.out
     obtain⟨z0,z1,z2,z3,z4,rfl⟩:=Vw h2
     exact⟨z0,z1,z2,z3,z4,h1⟩
   have HMS:Hid (PQ S (w.heap.size+1+1+1+1) (u8.setCell ⟨b,o+4,none⟩ (.slice a4 PT.buf.length t4))<PQ S (w.heap.size+1+1+1+1) wr):=by
    show _<_
    obtain⟨al2,ql2,hvl2⟩:=M9.out.lf.slice
    have h9:=M9.out.bx
    rw[hvl2] at h9
    rw[Qj h9,Qj CIH.out.bx]
    have:=HZ.out
    simp only[List.length_append,List.length_map,Hk,List.length_cons,List.length_nil]
    omega
   clear P1 P2 P3 P4 M9 HK0 NX CIH HRB;go_wp2;go_roundw
   case rel=>exact CN
   case measure=>exact HMS.out
end
section
open Go.RowKit

theorem Rm:∀(ts:List Tr) (f:Tr->Nat) (b:Nat),(∀t∈ts,f t<=b)->(ts.map f).sum<=ts.length*b
 |[],_,_,_=>by simp
 |t::ts,f,b,h=>by
  have h1:=Rm ts f b (fun t' ht' =>h t' (List.mem_cons_of_mem _ ht'))
  have h2:=h t (List.mem_cons_self ..)
  simp only[List.map_cons,List.sum_cons,List.length_cons]
  rw[Nat.succ_mul]
  omega
theorem Lq:∀(e:Nat) (T:Tr),shT e T->12*AU e T+52<=25*4^e
 |0,_,h=>h.elim
 |e+1,T,h=>by
  show 12*(T.pairs.length+(T.cuts.length+(T.kids.length+(T.kids.map (AU e)).sum+T.buf.length)))+52<=_
  have hp:4^(e+1)=4*4^e:=by rw[Nat.pow_succ];omega
  rcases h with⟨_,rfl,h1,h2,h3,h4⟩|⟨_,h1,h2,h3,h4,h5,h6⟩
  ·rw[h2,h3,h4]
   simp
   omega
  ·rw[h1,hp]
   have hk:=Rm T.kids (fun t=>12*AU e t+52) (25*4^e) (fun t ht=>Lq e t (h6 t ht))
   have hm:(T.kids.map (fun t=>12*AU e t+52)).sum=12*(T.kids.map (AU e)).sum+52*T.kids.length:=by
    generalize T.kids=ts
    induction ts with
    |nil=>rfl
    |cons t ts ih=>
     simp only[List.map_cons,List.sum_cons,List.length_cons]
     omega
   have h0:=Lq e (T.kids[0]'(by omega)) (h6 _ (List.getElem_mem _))
   simp only[List.length_nil]
   generalize 4^e=P at *
   generalize (T.kids.map (AU e)).sum=S at *
   generalize (T.kids.map (fun t=>12*AU e t+52)).sum=S2 at *
   generalize AU e (T.kids[0]'(by omega))=S4 at *
   generalize T.kids.length=k at *
   rcases(by omega:k=2∨k=3∨k=4) with rfl|rfl|rfl<;>omega
theorem UD {T:Tr} (h:okT T=true):AU (Al T) T<=34129:=by
 have h1:=JI h
 have h2:=Lq _ _ h1.1
 have:4^Al T<=4^7:=Nat.pow_le_pow_right (by decide) h1.2.1
 have h7:(4:Nat)^7=16384:=by decide
 omega
theorem Au.down:∀ {e n:Nat} {w:World} {F:Nat->Prop} {x:TV} {T:Tr},shT e T->Au n w F x T->Au e w F x T
 |0,_,_,_,_,_,h,_=>h.elim
 |_+1,0,_,_,_,_,_,h=>h.elim
 |e+1,n+1,w,F,x,T,hs,⟨h1,h2,h3,h4,xs,h5,h6,h7⟩=>by
  refine⟨h1,h2,h3,h4,xs,h5,h6,fun i hi=> ?_⟩
  rcases hs with⟨_,_,_,_,h,_⟩|⟨_,_,_,_,_,_,h⟩
  ·rw[h5,h] at hi;exact absurd hi (Nat.not_lt_zero _)
  ·exact Au.down (h _ (BT (by omega))) (h7 i hi)
theorem Q4 (n m:Nat) (hm:7<=m) (x:TV) (T:Tr) (F:Nat->Prop) (w:World) (ht:Au n w F x T) (hok:okT T=true) :
  Calls Tryz.prog 28 #[x.val] w fun e w' =>∃y:TV,e= .returned y.val/\AD m w' (fun g=>w.heap.size<=g) y T/\Below w.heap.size w w' :=by
 have h1:=JI hok
 have h2:=UD hok
 exact(FP false (Al T) x T F w ⟨(fun e=>by cases e),Au.down h1.1 ht⟩ (by omega) (fun _=>by omega)).mono (fun e w' ⟨y,he,hy,hb⟩=>⟨y,he,hy.le (by omega),hb⟩)

theorem I9 (n1 n:Nat) (hn:7<=n) (x1 x:TV) (T1 T:Tr) (F1 F:Nat->Prop) (w:World) (h1:Au n1 w F1 x1 T1) (h:AD n w F x T) (hs:AU n T<=1048576) :
  Calls Tryz.prog 29 #[x1.val,x.val] w fun e w' =>∃y:TV,e= .returned y.val/\AD n w' (fun g=>w.heap.size<=g) y (if okT T1=true then T1 else T)/\Below w.heap.size w w' :=by
 obtain⟨al,aP,aQ,aR,aS⟩:=x1
 obtain⟨a1,a2,a3,a4,a5,a6,a7,a8,a9,aa,ab,ac,hxa⟩:=h1.slices
 simp only[TV.mk.injEq,true_and] at hxa
 obtain⟨hxa1,hxa2,hxa3,hxa4⟩:=hxa
 subst hxa1 hxa2 hxa3 hxa4;obtain⟨dl,dP,dQ,dR,dS⟩:=x
 obtain⟨d1,d2,d3,d4,d5,d6,d7,d8,d9,da,db,dc,hxd⟩:=h.treeF.slices
 simp only[TV.mk.injEq,true_and] at hxd
 obtain⟨hxd1,hxd2,hxd3,hxd4⟩:=hxd
 subst hxd1 hxd2 hxd3 hxd4;have OK:Hid (∀u,Below w.heap.size w u->Calls Tryz.prog 15 #[.agg #[.bool al, .slice a1 a5 a9, .slice a2 a6 aa, .slice a3 a7 ab, .slice a4 a8 ac]] u fun e w' =>e= .returned (.bool (okT T1))/\Below u.heap.size u w'):=fun u hu=>Es n1 (TV.mk al (.slice a1 a5 a9) (.slice a2 a6 aa) (.slice a3 a7 ab) (.slice a4 a8 ac)) T1 u (h1.treeAt.below hu)
 have C1:Hid (okT T1=true->∀u,Below w.heap.size w u->Calls Tryz.prog 28 #[.agg #[.bool al, .slice a1 a5 a9, .slice a2 a6 aa, .slice a3 a7 ab, .slice a4 a8 ac]] u fun e w' =>∃y:TV,e= .returned y.val/\AD n w' (fun g=>u.heap.size<=g) y T1/\Below u.heap.size u w'):=fun hok u hu=>Q4 n1 n hn (TV.mk al (.slice a1 a5 a9) (.slice a2 a6 aa) (.slice a3 a7 ab) (.slice a4 a8 ac)) T1 F1 u (h1.below hu) hok
 have C2:Hid (∀u,Below w.heap.size w u->Calls Tryz.prog 28 #[.agg #[.bool dl, .slice d1 d5 d9, .slice d2 d6 da, .slice d3 d7 db, .slice d4 d8 dc]] u fun e w' =>∃y:TV,e= .returned y.val/\AD n w' (fun g=>u.heap.size<=g) y T/\Below u.heap.size u w'):=fun u hu=>FP true n (TV.mk dl (.slice d1 d5 d9) (.slice d2 d6 da) (.slice d3 d7 db) (.slice d4 d8 dc)) T F u ⟨fun _=>h.below hu,(h.below hu).treeF⟩ hs (fun e=>by cases e)
 have BW:Hid (Below w.heap.size w (((w.alloc (.cells #[.bool al, .slice a1 a5 a9, .slice a2 a6 aa, .slice a3 a7 ab, .slice a4 a8 ac] 30)).alloc (.cells #[.bool dl, .slice d1 d5 d9, .slice d2 d6 da, .slice d3 d7 db, .slice d4 d8 dc] 30)).alloc (.cells #[.bool false, .slice none 0 0, .slice none 0 0, .slice none 0 0, .slice none 0 0] 30))/\A8 (((w.alloc (.cells #[.bool al, .slice a1 a5 a9, .slice a2 a6 aa, .slice a3 a7 ab, .slice a4 a8 ac] 30)).alloc (.cells #[.bool dl, .slice d1 d5 d9, .slice d2 d6 da, .slice d3 d7 db, .slice d4 d8 dc] 30)).alloc (.cells #[.bool false, .slice none 0 0, .slice none 0 0, .slice none 0 0, .slice none 0 0] 30)) (w.heap.size) #[.bool al, .slice a1 a5 a9, .slice a2 a6 aa, .slice a3 a7 ab, .slice a4 a8 ac]/\A8 (((w.alloc (.cells #[.bool al, .slice a1 a5 a9, .slice a2 a6 aa, .slice a3 a7 ab, .slice a4 a8 ac] 30)).alloc (.cells #[.bool dl, .slice d1 d5 d9, .slice d2 d6 da, .slice d3 d7 db, .slice d4 d8 dc] 30)).alloc (.cells #[.bool false, .slice none 0 0, .slice none 0 0, .slice none 0 0, .slice none 0 0] 30)) (w.heap.size+1) #[.bool dl, .slice d1 d5 d9, .slice d2 d6 da, .slice d3 d7 db, .slice d4 d8 dc]/\A8 (((w.alloc (.cells #[.bool al, .slice a1 a5 a9, .slice a2 a6 aa, .slice a3 a7 ab, .slice a4 a8 ac] 30)).alloc (.cells #[.bool dl, .slice d1 d5 d9, .slice d2 d6 da, .slice d3 d7 db, .slice d4 d8 dc] 30)).alloc (.cells #[.bool false, .slice none 0 0, .slice none 0 0, .slice none 0 0, .slice none 0 0] 30)) (w.heap.size+1+1) #[.bool false, .slice none 0 0, .slice none 0 0, .slice none 0 0, .slice none 0 0]):=by
  have e:∀(x:World) (o:Obj),(x.alloc o).heap.size=x.heap.size+1:=fun x o=>by simp
  refine⟨Below.and (al1 _ _) (Below.and (al1 _ _) (al1 _ _)),((A8.start w _).step (al1 _ _)).step (al1 _ _), ?_, ?_⟩
  ·have:=(A8.start (w.alloc (.cells #[.bool al, .slice a1 a5 a9, .slice a2 a6 aa, .slice a3 a7 ab, .slice a4 a8 ac] 30)) #[.bool dl, .slice d1 d5 d9, .slice d2 d6 da, .slice d3 d7 db, .slice d4 d8 dc]).step (al1 _ (.cells #[.bool false, .slice none 0 0, .slice none 0 0, .slice none 0 0, .slice none 0 0] 30))
   rw[e] at this
   exact this
  ·have:=A8.start ((w.alloc (.cells #[.bool al, .slice a1 a5 a9, .slice a2 a6 aa, .slice a3 a7 ab, .slice a4 a8 ac] 30)).alloc (.cells #[.bool dl, .slice d1 d5 d9, .slice d2 d6 da, .slice d3 d7 db, .slice d4 d8 dc] 30)) #[.bool false, .slice none 0 0, .slice none 0 0, .slice none 0 0, .slice none 0 0]
   rw[e,e] at this
   exact this
 clear h1 h;show Calls Tryz.prog 29 #[.agg #[.bool al, .slice a1 a5 a9, .slice a2 a6 aa, .slice a3 a7 ab, .slice a4 a8 ac], .agg #[.bool dl, .slice d1 d5 d9, .slice d2 d6 da, .slice d3 d7 db, .slice d4 d8 dc]] w _
 obtain⟨_,q1,q2,q3⟩:=BW.out
 have c1:=q1.cells
 clear q1 q2 q3;by_cases hok:okT T1=true
 ·rw[if_pos hok]
  rw[hok] at OK
  go_enter Tryz.func29,Tryz.ntmps29
  go_wp2_with fail;generalize (((w.alloc (.cells #[.bool al, .slice a1 a5 a9, .slice a2 a6 aa, .slice a3 a7 ab, .slice a4 a8 ac] 30)).alloc (.cells #[.bool dl, .slice d1 d5 d9, .slice d2 d6 da, .slice d3 d7 db, .slice d4 d8 dc] 30)).alloc (.cells #[.bool false, .slice none 0 0, .slice none 0 0, .slice none 0 0, .slice none 0 0] 30))=W0 at *
  refine(OK.out _ BW.out.1).mono ?_
  rintro e w1 ⟨rfl,b1⟩
  obtain⟨p0,p1,p2,p3⟩:=BW.out
  have BX:Hid (Below w.heap.size w w1/\A8 w1 (w.heap.size) #[.bool al, .slice a1 a5 a9, .slice a2 a6 aa, .slice a3 a7 ab, .slice a4 a8 ac]/\A8 w1 (w.heap.size+1) #[.bool dl, .slice d1 d5 d9, .slice d2 d6 da, .slice d3 d7 db, .slice d4 d8 dc]/\A8 w1 (w.heap.size+1+1) #[.bool false, .slice none 0 0, .slice none 0 0, .slice none 0 0, .slice none 0 0]):=⟨Below.and p0 b1,p1.step b1,p2.step b1,p3.step b1⟩
  clear p0 p1 p2 p3 b1 BW c1;have c1:=BX.out.2.1.cells
  have hlt:=BX.out.2.2.2.lt
  go_wp2_with fail;refine(C1.out hok _ BX.out.1).mono ?_
  rintro e w2 ⟨y,rfl,ty,b2⟩
  have bz:A8 w2 (w.heap.size+1+1) #[.bool false, .slice none 0 0, .slice none 0 0, .slice none 0 0, .slice none 0 0]:=BX.out.2.2.2.step b2
  have bw:=Below.and BX.out.1 b2
  clear BX c1 OK C1 C2 b2;obtain⟨yl,yP,yQ,yR,yS⟩:=y
  obtain⟨y1,y2,y3,y4,y5,y6,y7,y8,y9,ya,yb,yc,hxy⟩:=ty.treeF.slices
  simp only[TV.mk.injEq,true_and] at hxy
  obtain⟨hxy1,hxy2,hxy3,hxy4⟩:=hxy
  subst hxy1 hxy2 hxy3 hxy4;have z8c:=bz.cells
  have z9:=bz.free
  have Z0:=(bz.set5 (.bool yl) (.slice y1 y5 y9) (.slice y2 y6 ya) (.slice y3 y7 yb) (.slice y4 y8 yc)).cells
  have FIN:Hid (AD n (Ha w2 (w.heap.size+1+1) (.bool yl) (.slice y1 y5 y9) (.slice y2 y6 ya) (.slice y3 y7 yb) (.slice y4 y8 yc)) (fun g=>w.heap.size<=g) (TV.mk yl (.slice y1 y5 y9) (.slice y2 y6 ya) (.slice y3 y7 yb) (.slice y4 y8 yc)) T1/\Below w.heap.size w (Ha w2 (w.heap.size+1+1) (.bool yl) (.slice y1 y5 y9) (.slice y2 y6 ya) (.slice y3 y7 yb) (.slice y4 y8 yc))):=
   ⟨(ty.chg (Dx w2 (w.heap.size+1+1) _ _ _ _ _) (fun g hg e=>by omega)).mono (fun g hg=>by omega),Dk bw (by omega) _ _ _ _ _⟩
  have HZ2:Hid _:=Z0
  clear Z0 ty;go_wp2;have Z:=HZ2.out
  refine bodyPost_ret (v:= .agg #[.bool yl, .slice y1 y5 y9, .slice y2 y6 ya, .slice y3 y7 yb, .slice y4 y8 yc]) (by simp[results,Tryz.results29,go_sem,Z]) rfl ⟨(TV.mk yl (.slice y1 y5 y9) (.slice y2 y6 ya) (.slice y3 y7 yb) (.slice y4 y8 yc)),rfl,FIN.out.1,FIN.out.2⟩
 ·have hok2:okT T1=false:=by simpa using hok
  rw[if_neg hok]
  rw[hok2] at OK
  go_enter Tryz.func29,Tryz.ntmps29
  go_wp2_with fail;generalize (((w.alloc (.cells #[.bool al, .slice a1 a5 a9, .slice a2 a6 aa, .slice a3 a7 ab, .slice a4 a8 ac] 30)).alloc (.cells #[.bool dl, .slice d1 d5 d9, .slice d2 d6 da, .slice d3 d7 db, .slice d4 d8 dc] 30)).alloc (.cells #[.bool false, .slice none 0 0, .slice none 0 0, .slice none 0 0, .slice none 0 0] 30))=W0 at *
  refine(OK.out _ BW.out.1).mono ?_
  rintro e w1 ⟨rfl,b1⟩
  obtain⟨p0,p1,p2,p3⟩:=BW.out
  have BX:Hid (Below w.heap.size w w1/\A8 w1 (w.heap.size) #[.bool al, .slice a1 a5 a9, .slice a2 a6 aa, .slice a3 a7 ab, .slice a4 a8 ac]/\A8 w1 (w.heap.size+1) #[.bool dl, .slice d1 d5 d9, .slice d2 d6 da, .slice d3 d7 db, .slice d4 d8 dc]/\A8 w1 (w.heap.size+1+1) #[.bool false, .slice none 0 0, .slice none 0 0, .slice none 0 0, .slice none 0 0]):=⟨Below.and p0 b1,p1.step b1,p2.step b1,p3.step b1⟩
  clear p0 p1 p2 p3 b1 BW c1;have c1:=BX.out.2.2.1.cells
  have hlt:=BX.out.2.2.2.lt
  go_wp2_with fail;refine(C2.out _ BX.out.1).mono ?_
  rintro e w2 ⟨y,rfl,ty,b2⟩
  have bz:A8 w2 (w.heap.size+1+1) #[.bool false, .slice none 0 0, .slice none 0 0, .slice none 0 0, .slice none 0 0]:=BX.out.2.2.2.step b2
  have bw:=Below.and BX.out.1 b2
  clear BX c1 OK C1 C2 b2;obtain⟨yl,yP,yQ,yR,yS⟩:=y
  obtain⟨y1,y2,y3,y4,y5,y6,y7,y8,y9,ya,yb,yc,hxy⟩:=ty.treeF.slices
  simp only[TV.mk.injEq,true_and] at hxy
  obtain⟨hxy1,hxy2,hxy3,hxy4⟩:=hxy
  subst hxy1 hxy2 hxy3 hxy4;have z8c:=bz.cells
  have z9:=bz.free
  have Z0:=(bz.set5 (.bool yl) (.slice y1 y5 y9) (.slice y2 y6 ya) (.slice y3 y7 yb) (.slice y4 y8 yc)).cells
  have FIN:Hid (AD n (Ha w2 (w.heap.size+1+1) (.bool yl) (.slice y1 y5 y9) (.slice y2 y6 ya) (.slice y3 y7 yb) (.slice y4 y8 yc)) (fun g=>w.heap.size<=g) (TV.mk yl (.slice y1 y5 y9) (.slice y2 y6 ya) (.slice y3 y7 yb) (.slice y4 y8 yc)) T/\Below w.heap.size w (Ha w2 (w.heap.size+1+1) (.bool yl) (.slice y1 y5 y9) (.slice y2 y6 ya) (.slice y3 y7 yb) (.slice y4 y8 yc))):=
   ⟨(ty.chg (Dx w2 (w.heap.size+1+1) _ _ _ _ _) (fun g hg e=>by omega)).mono (fun g hg=>by omega),Dk bw (by omega) _ _ _ _ _⟩
  have HZ2:Hid _:=Z0
  clear Z0 ty;go_wp2;have Z:=HZ2.out
  refine bodyPost_ret (v:= .agg #[.bool yl, .slice y1 y5 y9, .slice y2 y6 ya, .slice y3 y7 yb, .slice y4 y8 yc]) (by simp[results,Tryz.results29,go_sem,Z]) rfl ⟨(TV.mk yl (.slice y1 y5 y9) (.slice y2 y6 ya) (.slice y3 y7 yb) (.slice y4 y8 yc)),rfl,FIN.out.1,FIN.out.2⟩
end
section
open Go.RowKit

theorem NB (F:Nat->Prop) (y:TV) (T:Tr) (vm:Value) (ms:ML) (w:World) (ht:Au 1 w F y T) (hm:Row w vm ms.length (Af ms)) (hl:T.leaf=true) (hn:T.pairs.length+ms.length<=1000000) :
  Calls Tryz.prog 31 #[y.val,vm] w fun e w' =>∃v1 v2,e= .returned (.agg #[v1,v2])/\Ah 1 w' (fun b=>F b∨w.heap.size<=b) v1 (leafM (Cb T.pairs ms)).1/\An w' (fun b=>F b∨w.heap.size<=b) v2 (leafM (Cb T.pairs ms)).2.length (Ad (leafM (Cb T.pairs ms)).2)/\Below w.heap.size w w' :=by
 obtain⟨r1,r2,r3,r4,s1,s2,s3,s4,hy⟩:=ht.treeAt.shape
 obtain⟨a5,q5,hvm,_⟩:=hm.len
 obtain⟨-,hp, -, -, -⟩:=ht.parts
 rw[hy] at hp ⊢
 simp only at hp
 rw[hl]
 subst hvm;have hlen:=Fd T.pairs ms
 have MA:Hid (∀w1,Below w.heap.size w w1->Calls Tryz.prog 32 #[.slice r1 T.pairs.length s1, .slice a5 ms.length q5] w1 _):=fun w1 hb=>Fy (.slice r1 T.pairs.length s1) (.slice a5 ms.length q5) T.pairs ms w1 (hp.row.below hb) (hm.below hb) (by omega)
 show Calls Tryz.prog 31 #[.agg #[.bool true, .slice r1 T.pairs.length s1, .slice r2 T.cuts.length s2, .slice r3 T.kids.length s3, .slice r4 T.buf.length s4], .slice a5 ms.length q5] w _
 clear hm hp ht hy;generalize T.cuts.length=z2 at *
 generalize T.kids.length=z3 at *
 generalize T.buf.length=z4 at *
 generalize Cb T.pairs ms=AL at *
 generalize T.pairs.length=z1 at *
 generalize ms.length=nm at *
 have LV:Hid (∀w1 (v:Value),w1.ownsRow (w.heap.size+2) 41 2 v AL.length (Aq AL)->Calls Tryz.prog 65 #[v] w1 _):=fun w1 v o=>NG (fun g=>v.ownBlock=some g) v AL w1 (An.of_owns o) (by omega)
 have hs:∀A B e f,((w.alloc (.cells A e)).alloc (.cells B f)).heap.size=w.heap.size+2:=fun A B e f=>by simp
 go_enter Tryz.func31,Tryz.ntmps31
 go_wp2_with fail;refine Calls.mono (MA.out _ (al2 _ _ _)) ?_
 rintro e w1 ⟨v1,rfl,o1,b1⟩
 rw[hs] at o1 b1
 have X1:Hid (Ai w1 (w.heap.size+1) #[.slice none 0 0, .slice none 0 0]):=(b1.block (w.heap.size+1) (by simp)).trans (by have:=heap_alloc_new (w.alloc (.cells #[.bool true, .slice r1 z1 s1, .slice r2 z2 s2, .slice r3 z3 s3, .slice r4 z4 s4] 30)) (.cells #[.slice none 0 0, .slice none 0 0] 65);simpa using this)
 have BW:Hid (Below w.heap.size w w1):=Below.and (al2 _ _ _) (by rw[hs];exact b1)
 have hs1:w.heap.size+2<=w1.heap.size:=by have:=b1.size;rw[hs] at this;exact this
 obtain⟨a6,q6,hv1,_⟩:=(An.of_owns o1).row.len
 subst hv1;have OL:Hid (∀h,(Value.slice a6 AL.length q6).ownBlock=some h->w.heap.size+2<=h/\h<w1.heap.size):=fun h k=>World.ownsRow.lt o1 h k
 have LC:Hid _:=LV.out w1 _ o1
 clear o1 b1 LV MA;go_wp2_with fail;refine Calls.mono LC.out ?_
 rintro e w2 ⟨v1,v2,rfl,t1,t2,b2⟩
 obtain⟨c1,y1,hv1,_⟩:=t1.els.choose_spec.2.row.len
 obtain⟨c2,y2,hv2,_⟩:=t2.row.len
 subst hv1 hv2;have X2:=X1.out.step b2
 obtain⟨g0,g1⟩:=X2.two
 obtain⟨g2,g3⟩:=X2.free
 have FIN:Hid (Ah 1 (setR w2 (w.heap.size+1) (.slice c1 (leafM AL).1.length y1) (.slice c2 (leafM AL).2.length y2)) (fun b=>F b∨w.heap.size<=b) (.slice c1 (leafM AL).1.length y1) (leafM AL).1/\An (setR w2 (w.heap.size+1) (.slice c1 (leafM AL).1.length y1) (.slice c2 (leafM AL).2.length y2)) (fun b=>F b∨w.heap.size<=b) (.slice c2 (leafM AL).2.length y2) (leafM AL).2.length (Ad (leafM AL).2)/\Below w.heap.size w (setR w2 (w.heap.size+1) (.slice c1 (leafM AL).1.length y1) (.slice c2 (leafM AL).2.length y2))/\Ai (setR w2 (w.heap.size+1) (.slice c1 (leafM AL).1.length y1) (.slice c2 (leafM AL).2.length y2)) (w.heap.size+1) #[.slice c1 (leafM AL).1.length y1, .slice c2 (leafM AL).2.length y2]):=by
  have D:∀h,(Value.slice a6 AL.length q6).ownBlock=some h∨w1.heap.size<=h->¬h=w.heap.size+1:=fun h hh e=>by
   rcases hh with hh|hh
   ·have:=OL.out h hh;omega
   ·omega
  have M1:∀h,(Value.slice a6 AL.length q6).ownBlock=some h∨w1.heap.size<=h->F h∨w.heap.size<=h:=fun h hh=>by
   rcases hh with hh|hh
   ·have:=OL.out h hh;exact .inr (by omega)
   ·exact .inr (by omega)
  exact⟨(t1.chg (AA w2 (w.heap.size+1) _ _) (fun h k=>D h k)).mono M1,(t2.chg (AA w2 (w.heap.size+1) _ _) (fun h k=>D h k)).mono M1,((Below.and BW.out b2).setCell (p:=⟨w.heap.size+1,0,none⟩) (Nat.le_succ _) _).setCell (p:=⟨w.heap.size+1,1,none⟩) (Nat.le_succ _) _,X2.set2 _ _⟩
 clear t1 t2 b2 X2 LC;go_wp2;have ZZ:=FIN.out.2.2.2.two
 exact bodyPost_ret (v:= .agg #[.slice c1 (leafM AL).1.length y1, .slice c2 (leafM AL).2.length y2]) (by simp[results,Tryz.results31,go_sem,ZZ.1,ZZ.2]) rfl ⟨_,_,rfl,FIN.out.1,FIN.out.2.1,FIN.out.2.2.1⟩
end
end Go.Proofs.YtadmomgdacfgpaaGreat
