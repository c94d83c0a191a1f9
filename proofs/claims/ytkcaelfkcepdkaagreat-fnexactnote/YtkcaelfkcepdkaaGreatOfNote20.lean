/-
  The program's copyOfTree.
  The program's slices.Clone, of what was done last and of truths.
-/
import Derived.Test.YtkcaelfkcepdkaaGreatOfNote18
import Derived.Test.YtkcaelfkcepdkaaGreatOfNote19
import Derived.Test.YtkcaelfkcepdkaaGreatOfNote16
import Derived.Test.YtkcaelfkcepdkaaGreatOfNote2
import Derived.Test.YtkcaelfkcepdkaaGreatOfNote5
namespace Go.Proofs.YtkcaelfkcepdkaaGreat
set_option maxRecDepth 100000
set_option maxHeartbeats 8000000
section
open Go.RowKit

def Lg (S C:Nat) (w:World):Nat:=OJ ((w.cell? ⟨C,1,none⟩).getD (.bool true))+(S-(intOf ((w.cell? ⟨C,2,none⟩).getD (.bool true))).toNat)
theorem La {S C cp:Nat} {w:World} {x0:Value} {a:Option Addr} {m q:Nat} (h:Ch w C #[x0, .slice a m q, .int .i64 (cp:Nat)]):Lg S C w=m+(S-cp):=by
 obtain⟨_,h1,h2⟩:=h.three
 unfold Lg;rw[h1,h2]
 simp[OJ,intOf]
def B9 (w:World) (a b c d e:Value):World:=(((((w.alloc (.cells #[a,b,c,d,e] 69)).alloc (.cells #[.bool false, .slice none 0 0, .slice none 0 0, .slice none 0 0, .slice none 0 0] 69)).alloc (.map #[] 0)).alloc (.cells #[.pointer (some ⟨w.heap.size,0,none⟩)] 194)).alloc (.cells #[.map (some (w.heap.size+1+1)), .slice (some ⟨w.heap.size+1+1+1,0,none⟩) 1 1, .int .i64 0] 197))
def Rh (w:World) (n:Nat) (T:Tr) (u:World):Prop:=∃(y:TV) (G:Nat->Prop),Ds u w.heap.size 0 y/\Aw n u G y T/\∀g,G g->w.heap.size+5<=g

theorem Pi {d:Bool} {n:Nat} {T:Tr} {F:Nat->Prop} {w:World} {x:TV} (h:Src d n w F x T) (hz:Az n T<=1048576):Ci d (kz n T) w (B9 w (.bool x.lf) x.p x.c x.k x.b) (w.heap.size+4) (w.heap.size+2) [⟨w.heap.size,0,x,T,n,F⟩] (.slice (some ⟨w.heap.size+3,0,none⟩) 1 1) 0 (fun _=>False) (Rh w n T)/\(B9 w (.bool x.lf) x.p x.c x.k x.b).heap[w.heap.size+1]? =some (.cells #[.bool false, .slice none 0 0, .slice none 0 0, .slice none 0 0, .slice none 0 0] 69 (0,0)):=by
 have e:∀(x:World) (o:Obj),(x.alloc o).heap.size=x.heap.size+1:=fun x o=>by simp
 have k1:∀(x:World) (o:Obj) (g:Nat),g<x.heap.size->(x.alloc o).heap[g]? =x.heap[g]? :=fun x o g hg=>((Below.refl x.heap.size x).alloc (Nat.le_refl _) o).block g hg
 have hs:(B9 w (.bool x.lf) x.p x.c x.k x.b).heap.size=w.heap.size+5:=by unfold B9;simp
 have h0:(B9 w (.bool x.lf) x.p x.c x.k x.b).heap[w.heap.size]? =some (.cells #[.bool x.lf,x.p,x.c,x.k,x.b] 69 (0,0)):=by
  unfold B9;rw[k1 _ _ _ (by simp only[World.size_alloc];omega),k1 _ _ _ (by simp only[World.size_alloc];omega),k1 _ _ _ (by simp only[World.size_alloc];omega),k1 _ _ _ (by simp only[World.size_alloc];omega)]
  exact heap_alloc_new w _
 have h1:(B9 w (.bool x.lf) x.p x.c x.k x.b).heap[w.heap.size+1]? =some (.cells #[.bool false, .slice none 0 0, .slice none 0 0, .slice none 0 0, .slice none 0 0] 69 (0,0)):=by
  unfold B9;rw[k1 _ _ _ (by simp only[World.size_alloc];omega),k1 _ _ _ (by simp only[World.size_alloc];omega),k1 _ _ _ (by simp only[World.size_alloc];omega)]
  exact Rg (by simp)
 have h2:(B9 w (.bool x.lf) x.p x.c x.k x.b).heap[w.heap.size+2]? =some (.map #[] 0):=by
  unfold B9;rw[k1 _ _ _ (by simp only[World.size_alloc];omega),k1 _ _ _ (by simp only[World.size_alloc];omega)]
  exact Rg (by simp)
 have h3:(B9 w (.bool x.lf) x.p x.c x.k x.b).heap[w.heap.size+3]? =some (.cells #[.pointer (some ⟨w.heap.size,0,none⟩)] 194 (0,0)):=by
  unfold B9;rw[k1 _ _ _ (by simp only[World.size_alloc];omega)]
  exact Rg (by simp)
 have h4:(B9 w (.bool x.lf) x.p x.c x.k x.b).heap[w.heap.size+4]? =some (.cells #[.map (some (w.heap.size+2)), .slice (some ⟨w.heap.size+3,0,none⟩) 1 1, .int .i64 0] 197 (0,0)):=by
  unfold B9;exact Rg (by simp)
 have hb:Below w.heap.size w (B9 w (.bool x.lf) x.p x.c x.k x.b):=by
  unfold B9;exact(((((Below.refl _ _).alloc (Nat.le_refl _) _).alloc (by simp) _).alloc (by simp;omega) _).alloc (by simp;omega) _).alloc (by simp;omega) _
 refine⟨⟨h4,⟨#[],0,h2,fun e he=>by simp at he⟩, ?_,fun g hg=> ?_,hb,by omega,by omega,fun g hg=>hg.elim,fun p hp=> ?_,fun p hp=> ?_,fun p hp=> ?_,List.pairwise_singleton _ _,fun _=>⟨List.pairwise_singleton _ _,fun p _ g _ hg=>hg⟩, ?_, ?_, ?_,fun p hp=>by simp at hp;subst hp;exact hz⟩,h1⟩
 ·refine .inl ⟨rfl, .inr ⟨_,_,_,rfl,Nat.zero_le _,h3,Nat.le_refl _,by decide,rfl,rfl⟩⟩
 ·obtain⟨_,_,he,_⟩:=hg
  simp at he
  omega
 ·simp at hp
  subst hp;exact⟨_,h0,rfl,rfl,rfl,rfl,rfl⟩
 ·simp at hp
  subst hp;exact Nat.le_refl _
 ·simp at hp
  subst hp;exact h
 ·rw[He]
  simp
 ·rw[He]
  simp
  omega
 ·exact Jc.first (w:=B9 w (.bool x.lf) x.p x.c x.k x.b) _ _ (Nat.le_refl _) (fun u' y G hy ht hg=>⟨y,G,hy,ht,fun g hG=>by have:=hg g hG;omega⟩)

theorem Iw (d:Bool) (n:Nat) (x:TV) (T:Tr) (F:Nat->Prop) (w:World) (ht:Src d n w F x T) (hs:Az n T<=1048576) (hd:d=false->Az n T<=100000) :
  Calls Tryz.prog 126 #[x.val] w fun e w' =>∃y:TV,e= .returned y.val/\Aw n w' (fun g=>w.heap.size<=g) y T/\Below w.heap.size w w' :=by
 have hS:kz n T<=1048576:=Nat.le_trans (Sj n T) hs
 have HD:Hid (d=false->kz n T<=100000):=fun e=>Nat.le_trans (Sj n T) (hd e)
 obtain⟨CI,RB⟩:=Pi ht hs
 have I0:Hid (∃(ps:List Pd) (vl:Value) (cp:Nat) (V:Nat->Prop),Ci d (kz n T) w (B9 w (.bool x.lf) x.p x.c x.k x.b) (w.heap.size+4) (w.heap.size+2) ps vl cp V (Rh w n T)/\Dk ([]:List Pd) (B9 w (.bool x.lf) x.p x.c x.k x.b) (B9 w (.bool x.lf) x.p x.c x.k x.b)/\∃z0 z1 z2 z3 z4,(B9 w (.bool x.lf) x.p x.c x.k x.b).heap[w.heap.size+1]? =some (.cells #[z0,z1,z2,z3,z4] 69 (0,0))):=⟨_,_,_,_,CI,Dk.refl _ _,_,_,_,_,_,RB⟩
 obtain⟨xl,xp,xc,xk,xb⟩:=x
 clear ht hd CI RB hs;generalize kz n T=S at *
 have hmk:∀W:World,(Instr.makeMap 193 none).run Tryz.prog W= .ok (.map (some W.heap.size)) (W.alloc (.map #[] 0)):=fun _=>rfl
 show Calls Tryz.prog 126 #[.agg #[.bool xl,xp,xc,xk,xb]] w _
 go_enter Tryz.func126,Tryz.ntmps126
 go_wp2;clear hmk;go_loopw [4] (fun _ wr=>Hid (∃(ps:List Pd) (vl:Value) (cp:Nat) (V:Nat->Prop),Ci d S w wr (w.heap.size+1+1+1+1) (w.heap.size+2) ps vl cp V (Rh w n T)/\∃z0 z1 z2 z3 z4,wr.heap[w.heap.size+1]? =some (.cells #[z0,z1,z2,z3,z4] 69 (0,0))))
  (fun _ wr=>Lg S (w.heap.size+1+1+1+1) wr)
 case atStart=>
  obtain⟨ps,vl,cp,V,h1,_,h2⟩:=I0.out
  exact⟨ps,vl,cp,V,h1,h2⟩
 case round=>
  clear I0;obtain⟨ps,vl,cp,V,hci,z0,z1,z2,z3,z4,hrb⟩:=hrel.out
  clear hrel;obtain⟨al,ql,hvl⟩:=hci.shape
  subst hvl;obtain⟨c0,c1,c2⟩:=hci.bx.three
  have CIH:=hid (hci)
  have HRB:=hid (hrb)
  clear hci hrb;rcases List.eq_nil_or_concat ps with hps|⟨qs,p,hps⟩
  ·subst hps;obtain⟨⟨yl,yp,yc,yk,yb⟩,G,hy,hty,hG⟩:=CIH.out.kon.last
   obtain⟨r1,r2,r3,r4,z5,z6,z7,z8,s1,s2,s3,s4,hx⟩:=hty.treeF.slices
   simp only[TV.mk.injEq,true_and] at hx
   obtain⟨hx1,hx2,hx3,hx4⟩:=hx
   subst hx1 hx2 hx3 hx4;obtain⟨k0,k1,k2,k3,k4,kf⟩:=hy.cells
   simp only[Nat.zero_add] at k0 k1 k2 k3 k4
   simp only[List.length_nil] at c1
   have bz:Lr wr (w.heap.size+1) #[z0,z1,z2,z3,z4]:=HRB.out
   have z8c:=bz.cells
   have z9:=bz.free
   have Z:=(bz.set5 (.bool yl) (.slice r1 z5 s1) (.slice r2 z6 s2) (.slice r3 z7 s3) (.slice r4 z8 s4)).cells
   have FIN:Hid (Aw n (QL wr (w.heap.size+1) (.bool yl) (.slice r1 z5 s1) (.slice r2 z6 s2) (.slice r3 z7 s3) (.slice r4 z8 s4)) (fun g=>w.heap.size<=g) ⟨yl, .slice r1 z5 s1, .slice r2 z6 s2, .slice r3 z7 s3, .slice r4 z8 s4⟩ T/\Below w.heap.size w (QL wr (w.heap.size+1) (.bool yl) (.slice r1 z5 s1) (.slice r2 z6 s2) (.slice r3 z7 s3) (.slice r4 z8 s4))):=
    ⟨(hty.chg (QK wr (w.heap.size+1) _ _ _ _ _) (fun g hg e=>by have:=hG g hg;omega)).mono (fun g hg=>by have:=hG g hg;omega),Nx CIH.out.bw (Nat.le_succ _) _ _ _ _ _⟩
   have HZ2:Hid _:=Z
   clear CIH HRB bz hy hty hG c0 c2 Z;go_wp2;have Z:=HZ2.out
   refine bodyPost_ret (v:= .agg #[.bool yl, .slice r1 z5 s1, .slice r2 z6 s2, .slice r3 z7 s3, .slice r4 z8 s4]) (by simp[results,Tryz.results126,go_sem,Z]) rfl ⟨⟨yl, .slice r1 z5 s1, .slice r2 z6 s2, .slice r3 z7 s3, .slice r4 z8 s4⟩,rfl,FIN.out.1,FIN.out.2⟩
  ·rw[List.concat_eq_append] at hps
   subst hps;obtain⟨g,q,hv,hq,hcell,MID⟩:=CIH.out.pop
   have hlen:(qs++[p]).length=qs.length+1:=by simp
   rw[hlen] at c1 hv
   injection hv with e1 e2 e3
   subst e1 e3;have hcnt:=CIH.out.cnt
   have hsum:=CIH.out.sum
   rw[hlen] at hcnt
   have hm:qs.length<=1048576:=by omega
   have fr:=CIH.out.bx.free 1
   have hsrc:=CIH.out.src p (by simp)
   have hszp:=CIH.out.sz p (by simp)
   have hpb:p.b<wr.heap.size:=(CIH.out.ho p (by simp)).lt
   obtain⟨b,o,⟨yl,yp,yc,yk,yb⟩,PT,pn,PF⟩:=p
   cases pn with
   |zero=>exact hsrc.not0.elim
   |succ n'=>
   obtain⟨r1,r2,r3,r4,z5,z6,z7,z8,s1,s2,s3,s4,hx⟩:=hsrc.2.slices
   simp only[TV.mk.injEq,true_and] at hx
   obtain⟨hx1,hx2,hx3,hx4⟩:=hx
   subst hx1 hx2 hx3 hx4;obtain⟨hlf,R1,R2,R3,xs,KF,hxl,RK,SK,DD⟩:=hsrc.parts
   simp only at hlf R1 R2 R3 hxl RK SK DD hszp hpb
   rw[Im] at hszp
   have hkz:=On (K0:=0) hxl SK
   have hge:=J2 xs xs.length (Nat.le_refl _)
   have hpot:Hx (qs++[⟨b,o,⟨yl, .slice r1 z5 s1, .slice r2 z6 s2, .slice r3 z7 s3, .slice r4 z8 s4⟩,PT,n' +1,PF⟩])=Hx qs+kz (n' +1) PT:=by rw[Eh,He]
   rw[hpot] at hsum hcnt
   have CL1:=hid (fun u (hu:Below w.heap.size w u)=>J4 _ _ _ u (R1.below hu).row (Dl _) (Jt _) (by omega))
   have CL2:=hid (fun u (hu:Below w.heap.size w u)=>EY _ _ _ u (R2.below hu).row (by rw[Co];omega) (DZ _) (by omega))
   have CL3:=hid (fun u (hu:Below w.heap.size w u)=>Kt _ _ _ u (R3.below hu).row (EP _) (JM _) (by omega))
   have KC:Hid (∀(u:World) (y:TV) (vl:Value),Mid w wr u (w.heap.size+1+1+1+1) (w.heap.size+2) ⟨b,o,⟨yl, .slice r1 z5 s1, .slice r2 z6 s2, .slice r3 z7 s3, .slice r4 z8 s4⟩,PT,n' +1,PF⟩ y vl (qs.map Pd.ptr) cp V->Calls Tryz.prog 132 #[.pointer (some ⟨w.heap.size+1+1+1+1,0,none⟩), .slice r3 z7 s3] u fun e w' =>∃(vk vl' :Value) (K bb:Nat),e= .returned vk/\(0<xs.length->(∃Q,vk= .slice (some ⟨K,0,none⟩) xs.length Q)/\∃o q,Value.slice r3 z7 s3= .slice (some ⟨bb,o,none⟩) xs.length q)/\Ac w' u.heap.size 69 5 vk xs.length (AA xs)/\Chg (fun g=>g=w.heap.size+1+1+1+1∨g=w.heap.size+2∨wrB vl g) u w' ∧Mid w wr w' (w.heap.size+1+1+1+1) (w.heap.size+2) ⟨b,o,⟨yl, .slice r1 z5 s1, .slice r2 z6 s2, .slice r3 z7 s3, .slice r4 z8 s4⟩,PT,n' +1,PF⟩ y vl' (qs.map Pd.ptr++D5 K xs.length) (cp+BD xs xs.length) (fun g=>V g∨(0<xs.length/\g=bb))):=by
    intro u y vl hmid;refine(PA _ _ V (fun g=>PF g/\g<w.heap.size) (.slice r3 z7 s3) xs vl (qs.map Pd.ptr) cp u hmid.bx hmid.md hmid.lf ((RK.lt (QO _).2).below hmid.bw) (MH (fun i hi=>(SK i hi).2.slices)) (fun i hi=>(SK i hi).2.slices) (by omega) (by rw[List.length_map];exact hm) (by omega) ?_ ?_ ?_).mono ?_
    ·intro b' o' q' he h0
     cases d with
     |false=>exact .inr (by have:=HD.out rfl;omega)
     |true=>
      obtain⟨e1,e2,e3⟩:=DD rfl
      obtain⟨g',q2,he2,hg',_⟩:=e1 h0
      rw[he2] at he
      have hbe:b' =g' :=by simpa[Value.ownBlock] using(congrArg Value.ownBlock he).symm
      subst hbe;exact .inl ((CIH.out.dis rfl).2 _ (List.mem_append.2 (.inr (List.mem_singleton.2 rfl))) _ hg')
    ·intro g' hg';have h1:=hmid.hv g' hg'
     have h2:=hmid.bw.size
     exact⟨by omega,fun hw=>by have:=hmid.lo g' hw;omega⟩
    ·intro g' hg' hw;have:=hmid.lo g' hw
     omega
    ·rintro e w' ⟨vk,vl',K,bb,he,hk0,hk1,hk2,hk3,hk4,hk5,hk6⟩
     refine⟨vk,vl',K,bb,he,fun h0=>⟨(hk0 h0).1,(hk0 h0).2.2⟩,hk3,hk6,hmid.kids hk6 hk1 hk4 hk2 hk5 (fun g' hg' => ?_)⟩
     rcases hg' with hg' | ⟨h0,rfl⟩
     ·exact hmid.hv g' hg'
     ·exact(hk0 h0).2.1.2
   have MM:Hid _:=MID
   have NX:Hid _:=And.intro hlf (And.intro hxl (And.intro SK DD))
   have HZ:Hid (cp+BD xs xs.length<=S/\xs.length<=BD xs xs.length):=⟨by omega,hge⟩
   have hc1:=MID.ho.cells.2.1
   clear MID e2 hlen hcnt hsum c0 c2 hlf R1 R2 R3 hxl RK SK DD hszp hsrc hkz hge hpot;unfold Pd.ptr at hcell
   simp only at hcell hc1
   generalize hqm:qs.length=m at *
   have HQM:=hid (hqm)
   clear hqm;have hpos:(0:Int)<((m+1:Nat):Int):=by omega
   have hsub:((m+1:Nat):Int)-1=(m:Int):=by omega
   have hw1:IntKind.i64.wrap (((m+1:Nat):Int)-1)=(m:Int):=by rw[IntKind.wrap_i64];omega
   have hb1:(0:Int)<=(m:Int):=by omega
   have hb2:(m:Int)<((m+1:Nat):Int):=by omega
   have hb3:(m:Int)<=(ql:Int):=by omega
   go_wp2_with fail;clear c1 fr hpos hsub hw1 hb1 hb2 hb3 hcell hc1;generalize wr.setCell ⟨w.heap.size+1+1+1+1,1,none⟩ (.slice (some ⟨g,0,none⟩) m ql)=u1 at *
   refine(CL1.out u1 MM.out.bw).mono ?_
   rintro e u2 ⟨vp,rfl,o1,b1⟩
   obtain⟨a1,t1,hvp⟩:=o1.slice
   subst hvp;have M2:Hid (Mid w wr u2 (w.heap.size+1+1+1+1) (w.heap.size+2) ⟨b,o,⟨yl, .slice r1 z5 s1, .slice r2 z6 s2, .slice r3 z7 s3, .slice r4 z8 s4⟩,PT,n' +1,PF⟩ ⟨yl, .slice r1 z5 s1, .slice r2 z6 s2, .slice r3 z7 s3, .slice r4 z8 s4⟩ (.slice (some ⟨g,0,none⟩) m ql) (qs.map Pd.ptr) cp V):=MM.out.below b1
   have O1:Hid (Ac (u2.setCell ⟨b,o+1,none⟩ (.slice a1 PT.pairs.length t1)) wr.heap.size 157 2 (.slice a1 PT.pairs.length t1) PT.pairs.length (AF PT.pairs)):=M2.out.own hpb (o1.mono MM.out.on.1) (o+1) _
   have M3:Hid (Mid w wr (u2.setCell ⟨b,o+1,none⟩ (.slice a1 PT.pairs.length t1)) (w.heap.size+1+1+1+1) (w.heap.size+2) ⟨b,o,⟨yl, .slice r1 z5 s1, .slice r2 z6 s2, .slice r3 z7 s3, .slice r4 z8 s4⟩,PT,n' +1,PF⟩ ⟨yl, .slice a1 PT.pairs.length t1, .slice r2 z6 s2, .slice r3 z7 s3, .slice r4 z8 s4⟩ (.slice (some ⟨g,0,none⟩) m ql) (qs.map Pd.ptr) cp V):=M2.out.set 1 _ (.inl ⟨rfl,rfl⟩)
   obtain⟨hc0,hc1,hc2,hc3,hc4,hfr⟩:=M2.out.ho.cells
   have hd2:=M3.out.ho.cells.2.2.1
   simp only at hc0 hc1 hc2 hc3 hc4 hfr hd2
   clear o1 b1 MM;go_wp2_with fail;clear hc0 hc1 hc2 hc3 hc4 hfr hd2 M2;generalize u2.setCell ⟨b,o+1,none⟩ (.slice a1 PT.pairs.length t1)=u3 at *
   refine(CL2.out u3 M3.out.bw).mono ?_
   rintro e u4 ⟨vc,rfl,o2,b2⟩
   obtain⟨a2,t2,hvc⟩:=o2.slice
   subst hvc;have M4:Hid (Mid w wr u4 (w.heap.size+1+1+1+1) (w.heap.size+2) ⟨b,o,⟨yl, .slice r1 z5 s1, .slice r2 z6 s2, .slice r3 z7 s3, .slice r4 z8 s4⟩,PT,n' +1,PF⟩ ⟨yl, .slice a1 PT.pairs.length t1, .slice r2 z6 s2, .slice r3 z7 s3, .slice r4 z8 s4⟩ (.slice (some ⟨g,0,none⟩) m ql) (qs.map Pd.ptr) cp V):=M3.out.below b2
   have O1b:Hid (Ac (u4.setCell ⟨b,o+2,none⟩ (.slice a2 PT.cuts.length t2)) wr.heap.size 157 2 (.slice a1 PT.pairs.length t1) PT.pairs.length (AF PT.pairs)):=M4.out.own hpb (O1.out.below b2) (o+2) _
   have O2:Hid (Ac (u4.setCell ⟨b,o+2,none⟩ (.slice a2 PT.cuts.length t2)) wr.heap.size 3 1 (.slice a2 PT.cuts.length t2) PT.cuts.length (Am PT.cuts)):=M4.out.own hpb (o2.mono M3.out.on.1) (o+2) _
   have M5:Hid (Mid w wr (u4.setCell ⟨b,o+2,none⟩ (.slice a2 PT.cuts.length t2)) (w.heap.size+1+1+1+1) (w.heap.size+2) ⟨b,o,⟨yl, .slice r1 z5 s1, .slice r2 z6 s2, .slice r3 z7 s3, .slice r4 z8 s4⟩,PT,n' +1,PF⟩ ⟨yl, .slice a1 PT.pairs.length t1, .slice a2 PT.cuts.length t2, .slice r3 z7 s3, .slice r4 z8 s4⟩ (.slice (some ⟨g,0,none⟩) m ql) (qs.map Pd.ptr) cp V):=M4.out.set 2 _ (.inr (.inl ⟨rfl,rfl⟩))
   obtain⟨hc0,hc1,hc2,hc3,hc4,hfr⟩:=M4.out.ho.cells
   have hd3:=M5.out.ho.cells.2.2.2.1
   simp only at hc0 hc1 hc2 hc3 hc4 hfr hd3
   clear o2 b2 M3 O1;go_wp2_with fail;clear hc0 hc1 hc2 hc3 hc4 hfr hd3 M4;generalize u4.setCell ⟨b,o+2,none⟩ (.slice a2 PT.cuts.length t2)=u5 at *
   refine(KC.out u5 _ _ M5.out).mono ?_
   rintro e u6 ⟨vk,vl',K,bb,rfl,hk0,o3,c3,m6⟩
   obtain⟨a3,t3,hvk⟩:=o3.slice
   subst hvk;have HK0:Hid (0<xs.length->(∃Q,Value.slice a3 xs.length t3= .slice (some ⟨K,0,none⟩) xs.length Q)/\∃o q,Value.slice r3 z7 s3= .slice (some ⟨bb,o,none⟩) xs.length q):=hk0
   have M6:Hid (Mid w wr u6 (w.heap.size+1+1+1+1) (w.heap.size+2) ⟨b,o,⟨yl, .slice r1 z5 s1, .slice r2 z6 s2, .slice r3 z7 s3, .slice r4 z8 s4⟩,PT,n' +1,PF⟩ ⟨yl, .slice a1 PT.pairs.length t1, .slice a2 PT.cuts.length t2, .slice r3 z7 s3, .slice r4 z8 s4⟩ vl' (qs.map Pd.ptr++D5 K xs.length) (cp+BD xs xs.length) (fun g=>V g∨(0<xs.length/\g=bb))):=m6
   have O1:Hid (Ac (u6.setCell ⟨b,o+3,none⟩ (.slice a3 xs.length t3)) wr.heap.size 157 2 (.slice a1 PT.pairs.length t1) PT.pairs.length (AF PT.pairs)):=M6.out.own hpb (M5.out.ownKids c3 O1b.out (.inl rfl)) (o+3) _
   have O2b:Hid (Ac (u6.setCell ⟨b,o+3,none⟩ (.slice a3 xs.length t3)) wr.heap.size 3 1 (.slice a2 PT.cuts.length t2) PT.cuts.length (Am PT.cuts)):=M6.out.own hpb (M5.out.ownKids c3 O2.out (.inr (.inl rfl))) (o+3) _
   have O3:Hid (Ac (u6.setCell ⟨b,o+3,none⟩ (.slice a3 xs.length t3)) wr.heap.size 69 5 (.slice a3 xs.length t3) xs.length (AA xs)):=M6.out.own hpb (o3.mono M5.out.on.1) (o+3) _
   have M7:Hid (Mid w wr (u6.setCell ⟨b,o+3,none⟩ (.slice a3 xs.length t3)) (w.heap.size+1+1+1+1) (w.heap.size+2) ⟨b,o,⟨yl, .slice r1 z5 s1, .slice r2 z6 s2, .slice r3 z7 s3, .slice r4 z8 s4⟩,PT,n' +1,PF⟩ ⟨yl, .slice a1 PT.pairs.length t1, .slice a2 PT.cuts.length t2, .slice a3 xs.length t3, .slice r4 z8 s4⟩ vl' (qs.map Pd.ptr++D5 K xs.length) (cp+BD xs xs.length) (fun g=>V g∨(0<xs.length/\g=bb))):=M6.out.set 3 _ (.inr (.inr (.inl ⟨rfl,rfl⟩)))
   obtain⟨hc0,hc1,hc2,hc3,hc4,hfr⟩:=M6.out.ho.cells
   have hd4:=M7.out.ho.cells.2.2.2.2.1
   simp only at hc0 hc1 hc2 hc3 hc4 hfr hd4
   clear o3 c3 m6 hk0 M5 O1b O2 KC;go_wp2_with fail;clear hc0 hc1 hc2 hc3 hc4 hfr hd4 M6;generalize u6.setCell ⟨b,o+3,none⟩ (.slice a3 xs.length t3)=u7 at *
   refine(CL3.out u7 M7.out.bw).mono ?_
   rintro e u8 ⟨vb,rfl,o4,b4⟩
   obtain⟨a4,t4,hvb⟩:=o4.slice
   subst hvb;have M8:Hid (Mid w wr u8 (w.heap.size+1+1+1+1) (w.heap.size+2) ⟨b,o,⟨yl, .slice r1 z5 s1, .slice r2 z6 s2, .slice r3 z7 s3, .slice r4 z8 s4⟩,PT,n' +1,PF⟩ ⟨yl, .slice a1 PT.pairs.length t1, .slice a2 PT.cuts.length t2, .slice a3 xs.length t3, .slice r4 z8 s4⟩ vl' (qs.map Pd.ptr++D5 K xs.length) (cp+BD xs xs.length) (fun g=>V g∨(0<xs.length/\g=bb))):=M7.out.below b4
   have P1:Hid (Ac (u8.setCell ⟨b,o+4,none⟩ (.slice a4 PT.buf.length t4)) wr.heap.size 157 2 (.slice a1 PT.pairs.length t1) PT.pairs.length (AF PT.pairs)):=M8.out.own hpb (O1.out.below b4) (o+4) _
   have P2:Hid (Ac (u8.setCell ⟨b,o+4,none⟩ (.slice a4 PT.buf.length t4)) wr.heap.size 3 1 (.slice a2 PT.cuts.length t2) PT.cuts.length (Am PT.cuts)):=M8.out.own hpb (O2b.out.below b4) (o+4) _
   have P3:Hid (Ac (u8.setCell ⟨b,o+4,none⟩ (.slice a4 PT.buf.length t4)) wr.heap.size 69 5 (.slice a3 xs.length t3) xs.length (AA xs)):=M8.out.own hpb (O3.out.below b4) (o+4) _
   have P4:Hid (Ac (u8.setCell ⟨b,o+4,none⟩ (.slice a4 PT.buf.length t4)) wr.heap.size 115 3 (.slice a4 PT.buf.length t4) PT.buf.length (AW PT.buf)):=M8.out.own hpb (o4.mono M7.out.on.1) (o+4) _
   have M9:Hid (Mid w wr (u8.setCell ⟨b,o+4,none⟩ (.slice a4 PT.buf.length t4)) (w.heap.size+1+1+1+1) (w.heap.size+2) ⟨b,o,⟨yl, .slice r1 z5 s1, .slice r2 z6 s2, .slice r3 z7 s3, .slice r4 z8 s4⟩,PT,n' +1,PF⟩ ⟨yl, .slice a1 PT.pairs.length t1, .slice a2 PT.cuts.length t2, .slice a3 xs.length t3, .slice a4 PT.buf.length t4⟩ vl' (qs.map Pd.ptr++D5 K xs.length) (cp+BD xs xs.length) (fun g=>V g∨(0<xs.length/\g=bb))):=M8.out.set 4 _ (.inr (.inr (.inr ⟨rfl,rfl⟩)))
   obtain⟨hc0,hc1,hc2,hc3,hc4,hfr⟩:=M8.out.ho.cells
   simp only at hc0 hc1 hc2 hc3 hc4 hfr
   clear o4 b4 M7 O1 O2b O3 CL1 CL2 CL3;have CN:Hid (∃(ps:List Pd) (vl:Value) (cp:Nat) (V:Nat->Prop),Ci d S w (u8.setCell ⟨b,o+4,none⟩ (.slice a4 PT.buf.length t4)) (w.heap.size+1+1+1+1) (w.heap.size+2) ps vl cp V (Rh w n T)/\∃z0 z1 z2 z3 z4,(u8.setCell ⟨b,o+4,none⟩ (.slice a4 PT.buf.length t4)).heap[w.heap.size+1]? =some (.cells #[z0,z1,z2,z3,z4] 69 (0,0))):=by
    obtain⟨hlf,hxl,SK,DD⟩:=NX.out
    refine⟨_,vl',_,_,Ci.next (K:=K) (b:=bb) (KF:=KF) CIH.out rfl M9.out hlf P1.out P2.out P4.out hxl P3.out (fun h0=>(HK0.out h0).1) SK (fun hdt=> ?_), ?_⟩
    ·obtain⟨e1,e2,e3⟩:=DD hdt
     refine⟨fun h0=> ?_,e2,e3⟩
     obtain⟨g',q2,he2,hg',hg2⟩:=e1 h0
     obtain⟨o',q',he⟩:=(HK0.out h0).2
     rw[he2] at he
     have hbe:bb=g' :=by simpa[Value.ownBlock] using(congrArg Value.ownBlock he).symm
     subst hbe;exact⟨hg',hg2⟩
    ·obtain⟨c',h1,h2,_⟩:=M9.out.on.2 _ _ _ (.inr (.inr (.inr rfl))) HRB.out
     obtain⟨z0,z1,z2,z3,z4,rfl⟩:=RH h2
     exact⟨z0,z1,z2,z3,z4,h1⟩
   have HMS:Hid (Lg S (w.heap.size+1+1+1+1) (u8.setCell ⟨b,o+4,none⟩ (.slice a4 PT.buf.length t4))<Lg S (w.heap.size+1+1+1+1) wr):=by
    show _<_
    obtain⟨al2,ql2,hvl2⟩:=M9.out.lf.slice
    have h9:=M9.out.bx
    rw[hvl2] at h9
    rw[La h9,La CIH.out.bx]
    have:=HZ.out
    simp only[List.length_append,List.length_map,Fl,List.length_cons,List.length_nil]
    omega
   clear P1 P2 P3 P4 M9 HK0 NX CIH HRB;go_wp2;go_roundw
   case rel=>exact CN
   case measure=>exact HMS.out
end
section
open Go.RowKit

theorem IH (v:Value) (n:Nat) (xs:List Value) (w:World) (h:Row w v n xs) (hl:xs.length=n*4) (h1:∀y∈xs,y.oneCell' =true) (hn:n<=8388608) :
  Calls Tryz.prog 81 #[v] w fun e w' =>∃v',e= .returned v' ∧Ac w' w.heap.size 141 4 v' n xs/\Below w.heap.size w w' :=by
 obtain⟨a,q,hv,hq⟩:=h.len
 obtain⟨i0,hi0,hz0,hz1,hz2⟩:=info_parts Tryz.info141
 have HR:Hid _:=Cq (n:=n) (bytes:=32) hn (by decide)
 have RR:Hid (∀u,Below w.heap.size w u->Row u v n xs):=fun u hu=>h.below hu
 have HL:Hid (xs.length=n*4):=hl
 have H1:Hid _:=h1
 cases a with
 |none=>
  have hn0:n=0:=by
   obtain⟨a,b,o,c,h3,h4,h5,h6,h7,h8⟩:=h
   rw[hv] at h3
   injection h3 with e1 e2 e3
   have:=h8 e1.symm
   omega
  subst hn0;have hx:xs=[]:=List.length_eq_zero_iff.1 (by omega)
  subst hx hv;clear h hl h1 RR H1 HL;have hnil:∀W,(binOp .eql 34 (.slice none 0 q) (.slice none 0 0)).run Tryz.prog W= .ok (.bool true) W:=fun W=>Lib.run_eql_slice_nil_nil W _ _ Tryz.underlying34
  go_enter Tryz.func81,Tryz.ntmps81
  go_wp2;go_ret;exact⟨_,rfl,Ac.nil _ _ _ _,Below.refl _ _⟩
 |some p=>
  subst hv;clear h hl h1;have hnil:∀W,(binOp .eql 34 (.slice (some p) n q) (.slice none 0 0)).run Tryz.prog W= .ok (.bool false) W:=fun W=>Lib.run_eql_slice_some_nil W _ _ _ Tryz.underlying34
  go_enter Tryz.func81,Tryz.ntmps81
  go_wp2_with (at_builtin;refine BO (w.alloc (.cells #[] 141)) rfl _ _ 34 rfl w.heap.size 141 i0 _ 4 32 Tryz.underlying34 hi0 hz0 hz1 hz2 rfl (by decide) (.slice (some ⟨w.heap.size,0,none⟩) 0 0) 0 [] rfl (Ac.zero _ _ _ _ _) (.slice (some p) n q) n xs rfl (RR.out _ (al1 _ _)) HL.out H1.out HR.out.1 HR.out.2 (by simp) ?_)
  rintro v' w2 ⟨o1,o2,o3,o4⟩
  have B2:Below w.heap.size w w2:=Below.trans (al1 _ _) o3
  clear o2 o3 o4;go_wp2;go_ret;exact⟨_,rfl,by simpa using o1,B2⟩

theorem NZ (v:Value) (n:Nat) (xs:List Value) (w:World) (h:Row w v n xs) (hl:xs.length=n*1) (h1:∀y∈xs,y.oneCell' =true) (hn:n<=8388608) :
  Calls Tryz.prog 110 #[v] w fun e w' =>∃v',e= .returned v' ∧Ac w' w.heap.size 4 1 v' n xs/\Below w.heap.size w w' :=by
 obtain⟨a,q,hv,hq⟩:=h.len
 obtain⟨i0,hi0,hz0,hz1,hz2⟩:=info_parts Tryz.info4
 have HR:Hid _:=Cq (n:=n) (bytes:=1) hn (by decide)
 have RR:Hid (∀u,Below w.heap.size w u->Row u v n xs):=fun u hu=>h.below hu
 have HL:Hid (xs.length=n*1):=hl
 have H1:Hid _:=h1
 cases a with
 |none=>
  have hn0:n=0:=by
   obtain⟨a,b,o,c,h3,h4,h5,h6,h7,h8⟩:=h
   rw[hv] at h3
   injection h3 with e1 e2 e3
   have:=h8 e1.symm
   omega
  subst hn0;have hx:xs=[]:=List.length_eq_zero_iff.1 (by omega)
  subst hx hv;clear h hl h1 RR H1 HL;have hnil:∀W,(binOp .eql 57 (.slice none 0 q) (.slice none 0 0)).run Tryz.prog W= .ok (.bool true) W:=fun W=>Lib.run_eql_slice_nil_nil W _ _ Tryz.underlying57
  go_enter Tryz.func110,Tryz.ntmps110
  go_wp2;go_ret;exact⟨_,rfl,Ac.nil _ _ _ _,Below.refl _ _⟩
 |some p=>
  subst hv;clear h hl h1;have hnil:∀W,(binOp .eql 57 (.slice (some p) n q) (.slice none 0 0)).run Tryz.prog W= .ok (.bool false) W:=fun W=>Lib.run_eql_slice_some_nil W _ _ _ Tryz.underlying57
  go_enter Tryz.func110,Tryz.ntmps110
  go_wp2_with (at_builtin;refine BO (w.alloc (.cells #[] 4)) rfl _ _ 57 rfl w.heap.size 4 i0 _ 1 1 Tryz.underlying57 hi0 hz0 hz1 hz2 rfl (by decide) (.slice (some ⟨w.heap.size,0,none⟩) 0 0) 0 [] rfl (Ac.zero _ _ _ _ _) (.slice (some p) n q) n xs rfl (RR.out _ (al1 _ _)) HL.out H1.out HR.out.1 HR.out.2 (by simp) ?_)
  rintro v' w2 ⟨o1,o2,o3,o4⟩
  have B2:Below w.heap.size w w2:=Below.trans (al1 _ _) o3
  clear o2 o3 o4;go_wp2;go_ret;exact⟨_,rfl,by simpa using o1,B2⟩
end
end Go.Proofs.YtkcaelfkcepdkaaGreat
