/-
  The model's Note.
-/
import Derived.Test.YtkcaelfkcepdkaaGreatOfNote41
import Derived.Test.YtkcaelfkcepdkaaGreatOfNote43
import Derived.Test.YtkcaelfkcepdkaaGreatOfNote39
import Derived.Deep.CutBlock
namespace Go.Proofs.YtkcaelfkcepdkaaGreat
set_option maxRecDepth 100000
set_option maxHeartbeats 8000000
section
open Go.RowKit

theorem TZ {b:Int} {l:EL} {c j:Nat} {a:Int} (hb:I64 b) (hl:l.length<=1048576) (hc:c<=2097152) (hj:j<=(Bj b l ((c:Int)+1)).length) (ha:a=wrap64 (wrap64 ((c:Int)+1+j-b)-1)) :
  (inB a 0 ((l.length:Int)-1)=true->∃m:Nat,a=m/\m<l.length/\j<(Bj b l ((c:Int)+1)).length/\(Bj b l ((c:Int)+1))[j]? =l[m]?)/\(inB a 0 ((l.length:Int)-1)=false->j=(Bj b l ((c:Int)+1)).length):=by
 unfold I64 at hb;have hel:=Jm b l ((c:Int)+1)
 have hw:a=(c:Int)+j-b∨a=(c:Int)+j-b-18446744073709551616:=by rw[ha];unfold wrap64;omega
 have hr: -9223372036854775808<=a/\a<=9223372036854775807:=by rw[ha];unfold wrap64;omega
 by_cases hp:b<(c:Int)+1/\(c:Int)+1-b-1<l.length
 ·have e:Bj b l ((c:Int)+1)=l.drop ((c:Int)+1-b-1).toNat:=Iy (if_pos hp)
  rw[e,List.length_drop] at hj ⊢
  obtain⟨d,hd⟩:=Int.eq_ofNat_of_zero_le (show 0<=(c:Int)+1-b-1 by omega)
  rw[hd,Int.toNat_natCast] at hj ⊢
  have ea:a=((d+j:Nat):Int):=by omega
  refine⟨fun h=> ?_,fun h=> ?_⟩
  ·have:=DX.1 h
   exact⟨d+j,ea,by omega,by omega,by rw[List.getElem?_drop]⟩
  ·rcases Nat.lt_or_ge j (l.length-d) with q|q
   ·have:inB a 0 ((l.length:Int)-1)=true:=DX.2 (by omega)
    rw[this] at h
    cases h
   ·omega
 ·have e:Bj b l ((c:Int)+1)=[]:=ID (if_neg hp)
  rw[e] at hj ⊢
  have hj0:j=0:=by simpa using hj
  subst hj0;refine⟨fun h=> ?_,fun _=>rfl⟩
  have:=DX.1 h
  omega
theorem Sb (args:Array Value) (w:World):(callFunc 60 args).run Tryz.prog w= .ok (.enter 60 args) w:=by go_simp

theorem KI (n:Nat) (W:WrV) (D:Wd) (lo hi:Nat) (w:World) (h:WrI n w lo hi W D) (hs:D.small n) (i:Int) (N:AL) (DN:Nd) (hN:Bq n w N DN) (hsN:DN.small n) (hb:I64 N.lb) :
  Calls Tryz.prog 17 #[W.val, .int .i64 i,N.val] w fun e w' =>∃(V:WrV) (E:Wd) (F:Nat->Prop),e= .returned V.val/\W.sz=V.sz/\(D.note W.sz i N DN).like E/\WrS (Fq n) (Fj n) w' F V E/\(∀g,F g->w.heap.size<=g/\g<w'.heap.size)/\Below w.heap.size w w' :=by
 have hat:=h.at
 obtain⟨sz,nv,rv,cv,av,lv⟩:=W
 obtain⟨na,nq,hnv,_⟩:=hat.1.len
 simp only at hnv
 subst hnv;obtain⟨ca0,cq0,hcv,_⟩:=hat.2.2.1.len
 simp only at hcv
 subst hcv;obtain⟨zs,has⟩:∃zs:List Value,zs=[.int .i64 sz, .slice na D.ns.length nq,rv, .slice ca0 D.cs.length cq0,av,lv]:=⟨_,rfl⟩
 have hal:zs.length=6:=by rw[has];rfl
 have VW:(WrV.mk sz (.slice na D.ns.length nq) rv (.slice ca0 D.cs.length cq0) av lv).val= .agg zs.toArray:=by rw[has]
 obtain⟨ys,hys⟩:∃ys:List Value,ys=Ax (N,DN):=⟨_,rfl⟩
 have hyl:ys.length=23:=by rw[hys];rfl
 have VN:N.val= .agg ys.toArray:=by rw[hys];rfl
 have HYS:=hq hys
 clear hys;obtain⟨b0,o0,hRP⟩:∃b0 o0:Nat,Hid ((0<D.ns.length->na=some ⟨b0,o0,none⟩)/\∀u,Below w.heap.size w u->∀(j:Nat) (hj:j<D.ns.length),u.rangeAt b0 (o0+j*23) (Ax D.ns[j])):=by
  obtain⟨a,b,off,cap,hv,_,_,ha,rg⟩:=hat.1.parts (K:=23) (fun _=>rfl)
  simp only[Value.slice.injEq,true_and] at hv
  obtain⟨rfl,rfl⟩:=hv
  exact⟨b,off,ha,rg⟩
 have C9:=hq (fun (u:World) (hu:Below w.heap.size w u)=>(IY n N DN u (hN.below hu) hsN).mono (fun e w' (h:∃M:AL,e= .returned M.val/\N.like M/\Ll n w' u.heap.size M DN/\Below u.heap.size u w')=>show ∃M:AL,e= .returned M.val/\N.like M/\Ey n w' (fun g=>u.heap.size<=g) M DN/\Below u.heap.size u w' by obtain⟨M,a,b,c,d⟩:=h;exact⟨M,a,b,Ll.f c,d⟩))
 rw[VN] at C9
 obtain⟨la,bl,ol,ql,hlv,hLL⟩:∃(la:Option Addr) (bl ol ql:Nat),N.lv= .slice la DN.l.length ql/\Hid ((0<DN.l.length->la=some ⟨bl,ol,none⟩)/\∀u,Below w.heap.size w u->∀(j:Nat) (hj:j<DN.l.length),u.rangeAt bl (ol+j*6) (I7 DN.l[j])):=by
  obtain⟨a,b,off,cap,hv,_,_,ha,rg⟩:=Row.rangeL (B8 (cs:=I7) (K:=6) (fun _=>rfl) DN.l) (by rw[List.length_map, ← JR];exact hN.1)
  simp only[List.length_map] at hv ha rg
  exact⟨a,b,off,cap,hv,ha,fun u hu j hj=>by have:=rg u hu j hj;rw[List.getElem_map] at this;exact this⟩
 have HLB:=hq hb
 have HS1:=hq hsN.1
 have HS:=hq (And.intro hs.n (And.intro hs.c hs.l))
 have NC:Hid (∀u B,Ai 73 u B ys.toArray->u.rangeAt B 0 ys/\u.cell? ⟨B,0,none⟩=some (.int .i64 N.id)/\u.cell? ⟨B,1,none⟩=some (.int .i64 N.te)/\u.cell? ⟨B,3,none⟩=some (.int .i64 N.lb)/\u.cell? ⟨B,5,none⟩=some N.lv/\u.cell? ⟨B,12,none⟩=some (.int .i64 N.ro)/\u.cell? ⟨B,16,none⟩=some (.int .i64 N.cm)):=fun u B h=>by
  rw[HYS.out] at h ⊢
  have c:=Ez h
  exact⟨c.1,c.2.1,c.2.2.1,(h.cells 3).trans rfl,(h.cells 5).trans rfl,c.2.2.2.2.1,c.2.2.2.2.2⟩
 rw[hlv] at NC
 clear hN hsN hb hlv;have CP:=hq (fun (u:World) (hu:Below w.heap.size w u)=>J3 n ⟨sz, .slice na D.ns.length nq,rv, .slice ca0 D.cs.length cq0,av,lv⟩ D lo hi u (h.below hu) hs)
 have CZ:Hid (∀u,Ai 37 u w.heap.size zs.toArray->u.cell? ⟨w.heap.size,0,none⟩=some (.int .i64 sz)/\u.cell? ⟨w.heap.size,1,none⟩=some (.slice na D.ns.length nq)/\u.cell? ⟨w.heap.size,3,none⟩=some (.slice ca0 D.cs.length cq0)):=fun u hu=>by rw[has] at hu;exact⟨(hu.cells 0).trans rfl,(hu.cells 1).trans rfl,(hu.cells 3).trans rfl⟩
 rw[VW] at CP ⊢
 rw[VN]
 have b0:Below w.heap.size w (((w.alloc (.cells zs.toArray 37)).alloc (.cells ys.toArray 73)).alloc (.cells #[.int .i64 0, .slice none 0 0, .slice none 0 0, .slice none 0 0, .slice none 0 0, .slice none 0 0] 37)):=Below.and (Ae _ _) (Below.and (Ae _ _) (Ae _ _))
 have m0:=Ai.step (Ai.step (Ai.start 37 w zs.toArray) (Ae _ (.cells ys.toArray 73))) (Ae _ (.cells #[.int .i64 0, .slice none 0 0, .slice none 0 0, .slice none 0 0, .slice none 0 0, .slice none 0 0] 37))
 have m1:=Ai.step (Ai.start 73 (w.alloc (.cells zs.toArray 37)) ys.toArray) (Ae _ (.cells #[.int .i64 0, .slice none 0 0, .slice none 0 0, .slice none 0 0, .slice none 0 0, .slice none 0 0] 37))
 have m2:=Ai.start 37 ((w.alloc (.cells zs.toArray 37)).alloc (.cells ys.toArray 73)) #[.int .i64 0, .slice none 0 0, .slice none 0 0, .slice none 0 0, .slice none 0 0, .slice none 0 0]
 simp only[World.size_alloc] at m1 m2
 have B0:=hq b0
 have M0:=hq m0
 have M1:=hq m1
 have M2:=hq m2
 have HIA:Hid ((Tryz.prog.info? 37).map (·.size)=some zs.length):=by show _=_;rw[hal];exact(show(Tryz.prog.info? 37).map (·.size)=some 6 by kernel_rfl)
 have HIY:Hid ((Tryz.prog.info? 73).map (·.size)=some ys.length):=by show _=_;rw[hyl];exact(show(Tryz.prog.info? 73).map (·.size)=some 23 by kernel_rfl)
 have ZZ:Hid (w.heap.size+3=(((w.alloc (.cells zs.toArray 37)).alloc (.cells ys.toArray 73)).alloc (.cells #[.int .i64 0, .slice none 0 0, .slice none 0 0, .slice none 0 0, .slice none 0 0, .slice none 0 0] 37)).heap.size):=by show _=_;simp
 clear b0 m0 m1 m2 VW has hal VN;go_enter Tryz.func17,Tryz.ntmps17
 go_upto_region 1 with fail
 generalize (((w.alloc (.cells zs.toArray 37)).alloc (.cells ys.toArray 73)).alloc (.cells #[.int .i64 0, .slice none 0 0, .slice none 0 0, .slice none 0 0, .slice none 0 0, .slice none 0 0] 37))=V0 at *
 go_cut [7] (fun s5 wx=>∃(X:Nat) (c0 c1 c2 c3 c4:Value) (E:Wd),s5= .pointer (some ⟨X,0,none⟩)/\Hid (D.like E)/\Hid (WrS (Fq n) (Fj n) wx (fun g=>V0.heap.size<=g/\g<X) ⟨sz,c0,c1,c2,c3,c4⟩ E)/\Hid (Ai 37 wx X #[.int .i64 sz,c0,c1,c2,c3,c4])/\Hid (Below V0.heap.size V0 wx)/\Hid (V0.heap.size<=X/\X<wx.heap.size))
 case first=>
  have RA:Hid (V0.rangeAt w.heap.size 0 zs):=by have:=Ao M0.out;rw[List.toList_toArray] at this;exact this
  go_wp2_with (refine wpList_load_mid rfl 37 _ rfl w.heap.size 0 rfl zs _ RA.out Tryz.underlying37 rfl HIA.out ?_)
  refine(CP.out V0 B0.out).mono ?_
  rintro e w1 ⟨V,E,rfl,hsz,hl,hW,hb⟩
  replace hW:=WrW.s hW
  obtain⟨sz1,c0,c1,c2,c3,c4⟩:=V
  simp only at hsz
  subst hsz;obtain⟨cs,hcs⟩:∃cs:List Value,cs=[.int .i64 sz,c0,c1,c2,c3,c4]:=⟨_,rfl⟩
  have hcl:cs.length=6:=by rw[hcs];rfl
  have ONC:Hid (cs.toArray.all (·.oneCell')=true):=by rw[hcs];exact(WrS.at (Hd n) (Hh n) hW).ones6
  have VC:(WrV.mk sz c0 c1 c2 c3 c4).val= .agg cs.toArray:=by rw[hcs]
  rw[VC]
  have HI2:Hid ((Tryz.prog.info? 37).map (·.size)=some cs.toArray.size):=by show _=_;rw[List.size_toArray,hcl];exact(show(Tryz.prog.info? 37).map (·.size)=some 6 by kernel_rfl)
  have Y:=hq (Ai.start 37 w1 #[.int .i64 0, .slice none 0 0, .slice none 0 0, .slice none 0 0, .slice none 0 0, .slice none 0 0])
  have TH:Hid ((w1.alloc (.cells #[.int .i64 0, .slice none 0 0, .slice none 0 0, .slice none 0 0, .slice none 0 0, .slice none 0 0] 37)).there w1.heap.size 0 cs.toArray.size):=Ba Y.out (show 6=cs.toArray.size by rw[List.size_toArray,hcl])
  have ba:Below w1.heap.size w1 (w1.alloc (.cells #[.int .i64 0, .slice none 0 0, .slice none 0 0, .slice none 0 0, .slice none 0 0, .slice none 0 0] 37)):=Ae _ _
  have GC:Chg (fun g=>g=w1.heap.size) (w1.alloc (.cells #[.int .i64 0, .slice none 0 0, .slice none 0 0, .slice none 0 0, .slice none 0 0, .slice none 0 0] 37)) ((w1.alloc (.cells #[.int .i64 0, .slice none 0 0, .slice none 0 0, .slice none 0 0, .slice none 0 0, .slice none 0 0] 37)).setCells w1.heap.size 0 cs):=Chg.setCells (F:=fun g=>g=w1.heap.size) (g:=w1.heap.size) (fun _=>rfl) cs 0 _ (Chg.refl _ _)
  have XF:Hid (Ai 37 ((w1.alloc (.cells #[.int .i64 0, .slice none 0 0, .slice none 0 0, .slice none 0 0, .slice none 0 0, .slice none 0 0] 37)).setCells w1.heap.size 0 cs) w1.heap.size cs.toArray):=A7 Y.out cs (by rw[hcl];rfl)
  have B3:Below w1.heap.size w1 ((w1.alloc (.cells #[.int .i64 0, .slice none 0 0, .slice none 0 0, .slice none 0 0, .slice none 0 0, .slice none 0 0] 37)).setCells w1.heap.size 0 cs):=ba.trans (GC.below (fun g _ hg=>by omega) ba.size)
  have B4:Hid (Below V0.heap.size V0 ((w1.alloc (.cells #[.int .i64 0, .slice none 0 0, .slice none 0 0, .slice none 0 0, .slice none 0 0, .slice none 0 0] 37)).setCells w1.heap.size 0 cs)):=hb.trans (B3.mono hb.size)
  have S1:Hid (V0.heap.size<=w1.heap.size/\w1.heap.size<((w1.alloc (.cells #[.int .i64 0, .slice none 0 0, .slice none 0 0, .slice none 0 0, .slice none 0 0, .slice none 0 0] 37)).setCells w1.heap.size 0 cs).heap.size):=⟨hb.size,by have:=GC.size;simp only[World.size_alloc] at this;show _<_;omega⟩
  have W3:=hq (hW.below (DO n) (DK n) B3)
  have HL:=hq hl
  have XF2:Hid (Ai 37 ((w1.alloc (.cells #[.int .i64 0, .slice none 0 0, .slice none 0 0, .slice none 0 0, .slice none 0 0, .slice none 0 0] 37)).setCells w1.heap.size 0 cs) w1.heap.size #[.int .i64 sz,c0,c1,c2,c3,c4]):=by have:=XF.out;rw[show cs.toArray= #[.int .i64 sz,c0,c1,c2,c3,c4] by rw[hcs]] at this;exact this
  have FIN:Hid (∃(X:Nat) (c0 c1 c2 c3 c4:Value) (E:Wd),Value.pointer (some ⟨w1.heap.size,0,none⟩)= .pointer (some ⟨X,0,none⟩)/\Hid (D.like E)/\Hid (WrS (Fq n) (Fj n) ((w1.alloc (.cells #[.int .i64 0, .slice none 0 0, .slice none 0 0, .slice none 0 0, .slice none 0 0, .slice none 0 0] 37)).setCells w1.heap.size 0 cs) (fun g=>V0.heap.size<=g/\g<X) ⟨sz,c0,c1,c2,c3,c4⟩ E)/\Hid (Ai 37 ((w1.alloc (.cells #[.int .i64 0, .slice none 0 0, .slice none 0 0, .slice none 0 0, .slice none 0 0, .slice none 0 0] 37)).setCells w1.heap.size 0 cs) X #[.int .i64 sz,c0,c1,c2,c3,c4])/\Hid (Below V0.heap.size V0 ((w1.alloc (.cells #[.int .i64 0, .slice none 0 0, .slice none 0 0, .slice none 0 0, .slice none 0 0, .slice none 0 0] 37)).setCells w1.heap.size 0 cs))/\Hid (V0.heap.size<=X/\X<((w1.alloc (.cells #[.int .i64 0, .slice none 0 0, .slice none 0 0, .slice none 0 0, .slice none 0 0, .slice none 0 0] 37)).setCells w1.heap.size 0 cs).heap.size)):=⟨w1.heap.size,c0,c1,c2,c3,c4,E,rfl,HL.out,W3.out,XF2.out,B4.out,S1.out⟩
  clear XF XF2 W3 HL B4 S1 GC B3 hcs VC hl hb hW Y ba B0 M0 M1 M2 ZZ RA HIA HIY CP CZ HYS hyl;go_wp2_with (refine wpList_store_mid rfl 37 _ _ rfl w1.heap.size 0 cs.toArray rfl rfl TH.out HI2.out ONC.out ?_)
  go_meet;exact FIN.out
 case rest=>
  clear CP HIA;obtain⟨X,c0,c1,c2,c3,c4,E,rfl,LK,G0,BX0,BW0,XM⟩:=hcut
  have ISO:=hq (Lv i 0 ((D.ns.length:Int)-1))
  have cz:=CZ.out _ (M0.out.step BW0.out)
  obtain⟨cz0,cz1,cz3⟩:=cz
  have hln:=HS.out.1
  by_cases hib:inB i 0 (min sz D.ns.length-1)=true
  ·have hib2:=DX.1 hib
   obtain⟨k,rfl⟩:=Int.eq_ofNat_of_zero_le hib2.1
   have hk:k<D.ns.length:=by omega
   have hi1:inB (k:Int) 0 ((D.ns.length:Int)-1)=true:=DX.2 (by omega)
   have hi2:¬(sz<=(k:Int)):=by omega
   have hi3:(k:Int)<(D.ns.length:Int):=by omega
   have hal:=hRP.out.1 (by omega)
   subst hal;obtain⟨ps,hps⟩:∃ps:List Value,ps=Ax D.ns[k]:=⟨_,rfl⟩
   have hpl:ps.length=23:=by rw[hps];rfl
   have RP:Hid (∀u,Below w.heap.size w u->u.rangeAt b0 (o0+k*23) ps):=fun u hu=>by rw[hps];exact hRP.out.2 u hu k hk
   obtain⟨P,hP⟩:∃P:AL,P=D.ns[k].1:=⟨_,rfl⟩
   have PC:Hid (∀u B,Ai 73 u B ps.toArray->u.cell? ⟨B,1,none⟩=some (.int .i64 P.te)/\u.cell? ⟨B,12,none⟩=some (.int .i64 P.ro)):=fun u B h=>by
    rw[hps] at h
    have c:=Ez (N:=D.ns[k].1) (D:=D.ns[k].2) h
    rw[hP]
    exact⟨c.2.2.1,c.2.2.2.2.1⟩
   have ONP:Hid (ps.toArray.all (·.oneCell')=true):=by rw[hps];exact Bq.ones (D:=D.ns[k].2) (D' :=D.ns[k].2) (hat.1.2 _ (List.getElem_mem hk))
   have LIKE:Hid (∀M:AL,N.like M->(D.note sz (k:Int) N DN).like ⟨E.ns.set k (M,DN),E.rs,E.cs++((Bj N.lb DN.l ((D.cs.length:Int)+1)).take (ntK D.cs.length N.cm)).map Ct,E.ds,E.ls++(if ntB N P D.ls.length then [(N.te,N.id)] else [])⟩):=fun M hM=>by
    unfold Wd.note
    rw[if_pos hib,Int.toNat_natCast]
    have LK:=LK.out
    refine⟨LK.n.set (x:=(N,DN)) (y:=(M,DN)) ⟨hM,rfl⟩ k,LK.r, ?_,LK.d, ?_⟩
    ·show D.cs++_=_
     rw[LK.c];rfl
    ·show D.ls++_=_
     rw[show(D.ns.getD k Ap).1=P by rw[hP];simp[List.getD,hk],LK.l];rfl
   have HEN:Hid (E.ns.length=D.ns.length/\E.cs.length=D.cs.length/\E.ls.length=D.ls.length):=⟨LK.out.n.1.symm,by rw[LK.out.c],by rw[LK.out.l]⟩
   obtain⟨g0,p0,hv0,_,_⟩:=G0.out.nod.1.pos (by rw[HEN.out.1];omega)
   simp only at hv0
   rw[HEN.out.1] at hv0
   subst hv0;have GI:Hid (NtG (Fq n) (Fj n) V0 wc X (fun _=>False) sz c1 c3 wc (fun g=>V0.heap.size<=g/\g<X) (.slice (some ⟨g0,0,none⟩) D.ns.length p0) c2 c4 E):=⟨G0.out,fun g hg=>⟨hg.1,by have:=hg.2;have:=XM.out.2;omega,by have:=hg.2;omega,fun e=>e⟩,BX0.out,BW0.out,⟨XM.out.1,XM.out.2,fun e=>e,Nat.le_refl _⟩,fun _ e=>e.elim⟩
   clear hib hib2 hRP hps hP LK G0 BX0 XM hat;have BWW:=hq (Below.and B0.out BW0.out)
   have RPW:=RP.out wc BWW.out
   have HIP:Hid ((Tryz.prog.info? 73).map (·.size)=some ps.length):=by show _=_;rw[hpl];exact(show(Tryz.prog.info? 73).map (·.size)=some 23 by kernel_rfl)
   have HIP2:Hid ((Tryz.prog.info? 73).map (·.size)=some ps.toArray.size):=by show _=_;rw[List.size_toArray];exact HIP.out
   have Y:=hq (Ai.start 73 wc #[.int .i64 0, .int .i64 0, .int .i64 0, .int .i64 0, .int .i64 0, .slice none 0 0, .bool false, .slice none 0 0, .slice none 0 0, .slice none 0 0, .slice none 0 0, .slice none 0 0, .int .i64 0, .slice none 0 0, .slice none 0 0, .slice none 0 0, .int .i64 0, .bool false, .slice none 0 0, .slice none 0 0, .slice none 0 0, .slice none 0 0, .slice none 0 0])
   have TH:Hid ((wc.alloc (.cells #[.int .i64 0, .int .i64 0, .int .i64 0, .int .i64 0, .int .i64 0, .slice none 0 0, .bool false, .slice none 0 0, .slice none 0 0, .slice none 0 0, .slice none 0 0, .slice none 0 0, .int .i64 0, .slice none 0 0, .slice none 0 0, .slice none 0 0, .int .i64 0, .bool false, .slice none 0 0, .slice none 0 0, .slice none 0 0, .slice none 0 0, .slice none 0 0] 73)).there wc.heap.size 0 ps.toArray.size):=Ba Y.out (show 23=ps.toArray.size by rw[List.size_toArray,hpl])
   have ba:Below wc.heap.size wc (wc.alloc (.cells #[.int .i64 0, .int .i64 0, .int .i64 0, .int .i64 0, .int .i64 0, .slice none 0 0, .bool false, .slice none 0 0, .slice none 0 0, .slice none 0 0, .slice none 0 0, .slice none 0 0, .int .i64 0, .slice none 0 0, .slice none 0 0, .slice none 0 0, .int .i64 0, .bool false, .slice none 0 0, .slice none 0 0, .slice none 0 0, .slice none 0 0, .slice none 0 0] 73)):=Ae _ _
   have GC:Chg (fun g=>g=wc.heap.size) (wc.alloc (.cells #[.int .i64 0, .int .i64 0, .int .i64 0, .int .i64 0, .int .i64 0, .slice none 0 0, .bool false, .slice none 0 0, .slice none 0 0, .slice none 0 0, .slice none 0 0, .slice none 0 0, .int .i64 0, .slice none 0 0, .slice none 0 0, .slice none 0 0, .int .i64 0, .bool false, .slice none 0 0, .slice none 0 0, .slice none 0 0, .slice none 0 0, .slice none 0 0] 73)) ((wc.alloc (.cells #[.int .i64 0, .int .i64 0, .int .i64 0, .int .i64 0, .int .i64 0, .slice none 0 0, .bool false, .slice none 0 0, .slice none 0 0, .slice none 0 0, .slice none 0 0, .slice none 0 0, .int .i64 0, .slice none 0 0, .slice none 0 0, .slice none 0 0, .int .i64 0, .bool false, .slice none 0 0, .slice none 0 0, .slice none 0 0, .slice none 0 0, .slice none 0 0] 73)).setCells wc.heap.size 0 ps):=Chg.setCells (F:=fun g=>g=wc.heap.size) (g:=wc.heap.size) (fun _=>rfl) ps 0 _ (Chg.refl _ _)
   have YM:Hid (Ai 73 ((wc.alloc (.cells #[.int .i64 0, .int .i64 0, .int .i64 0, .int .i64 0, .int .i64 0, .slice none 0 0, .bool false, .slice none 0 0, .slice none 0 0, .slice none 0 0, .slice none 0 0, .slice none 0 0, .int .i64 0, .slice none 0 0, .slice none 0 0, .slice none 0 0, .int .i64 0, .bool false, .slice none 0 0, .slice none 0 0, .slice none 0 0, .slice none 0 0, .slice none 0 0] 73)).setCells wc.heap.size 0 ps) wc.heap.size ps.toArray):=A7 Y.out ps (by rw[hpl];rfl)
   have B4:Hid (Below wc.heap.size wc ((wc.alloc (.cells #[.int .i64 0, .int .i64 0, .int .i64 0, .int .i64 0, .int .i64 0, .slice none 0 0, .bool false, .slice none 0 0, .slice none 0 0, .slice none 0 0, .slice none 0 0, .slice none 0 0, .int .i64 0, .slice none 0 0, .slice none 0 0, .slice none 0 0, .int .i64 0, .bool false, .slice none 0 0, .slice none 0 0, .slice none 0 0, .slice none 0 0, .slice none 0 0] 73)).setCells wc.heap.size 0 ps)):=ba.trans (GC.below (fun g _ hg=>by omega) ba.size)
   have hYl:wc.heap.size<((wc.alloc (.cells #[.int .i64 0, .int .i64 0, .int .i64 0, .int .i64 0, .int .i64 0, .slice none 0 0, .bool false, .slice none 0 0, .slice none 0 0, .slice none 0 0, .slice none 0 0, .slice none 0 0, .int .i64 0, .slice none 0 0, .slice none 0 0, .slice none 0 0, .int .i64 0, .bool false, .slice none 0 0, .slice none 0 0, .slice none 0 0, .slice none 0 0, .slice none 0 0] 73)).setCells wc.heap.size 0 ps).heap.size:=by have:=GC.size;simp only[World.size_alloc] at this;omega
   have G4:=hq ((GI.out.step (DO n) (DK n) B4.out).more hYl (by have:=GI.out.2.2.2.2.1.2.1;omega) (fun g hg=>by have:=(GI.out.2.1 g hg).2.1;omega))
   clear GC ba Y GI hYl;go_upto_region 2 with fail
   go_wp2_with fail;refine(ISO.out _).mono ?_
   rintro e w1 ⟨rfl,hw1⟩
   subst hw1;rw[hi1]
   go_upto_region 5 with(first|(refine wpList_load_mid rfl 73 _ rfl b0 (o0+k*23) rfl ps _ RPW Tryz.underlying73 rfl HIP.out ?_)|(refine wpList_store_mid rfl 73 _ _ rfl w1.heap.size 0 ps.toArray rfl rfl TH.out HIP2.out ONP.out ?_))
   generalize hYY:w1.heap.size=Y at *
   generalize ((w1.alloc (.cells #[.int .i64 0, .int .i64 0, .int .i64 0, .int .i64 0, .int .i64 0, .slice none 0 0, .bool false, .slice none 0 0, .slice none 0 0, .slice none 0 0, .slice none 0 0, .slice none 0 0, .int .i64 0, .slice none 0 0, .slice none 0 0, .slice none 0 0, .int .i64 0, .bool false, .slice none 0 0, .slice none 0 0, .slice none 0 0, .slice none 0 0, .slice none 0 0] 73)).setCells Y 0 ps)=U4 at *
   clear TH HIP HIP2 ONP RPW RP cz0 cz1 ISO hi1 hi2 B4;generalize hQY:(fun g=>False∨g=Y)=QY at *
   have HQY:Hid (QY Y):=by show QY Y;rw[←hQY];exact Or.inr rfl
   clear hQY;have KE:Hid (∀u,Below U4.heap.size U4 u->(fun u:World=>u.rangeAt (w.heap.size+1) 0 ys/\u.cell? ⟨X,1,none⟩=some (.slice (some ⟨g0,0,none⟩) D.ns.length p0)) u):=fun u hu=>by
    have g:=G4.out.step (DO n) (DK n) hu
    exact⟨(NC.out u _ (M1.out.step g.2.2.2.1)).1,(g.2.2.1.cells 1).trans rfl⟩
   have RL:Hid (Below U4.heap.size U4 U4.drew):=(Below.refl _ _).drew
   refine BA (fun u:World=>u.rangeAt (w.heap.size+1) 0 ys/\u.cell? ⟨X,1,none⟩=some (.slice (some ⟨g0,0,none⟩) D.ns.length p0)) [_,_,_,_,_,_] _ rfl (by kernel_rfl) (by kernel_rfl) ?_
   refine tk 0 (oi:=⟨_,_,_,_,_,_⟩) (v:= ?_) rfl (by kernel_rfl) (fun _ _ _ h=>h) (Or.inl ⟨by rfl, ?_⟩) (KE.out _ RL.out) ?_
   rotate_left
   ·(intro u hu;obtain⟨s0,s1⟩:=hu;go_simp)
    try with_reducible rfl
   try simp only[Act.put,sA,sB,sC]
   refine tk 1 (oi:=⟨_,_,_,_,_,_⟩) (v:= ?_) rfl (by kernel_rfl) (fun _ _ _ h=>h) (Or.inl ⟨by rfl, ?_⟩) (KE.out _ RL.out) ?_
   rotate_left
   ·(intro u hu;obtain⟨s0,s1⟩:=hu;go_simp)
    try with_reducible rfl
   try simp only[Act.put,sA,sB,sC]
   refine tk 2 (oi:=⟨_,_,_,_,_,_⟩) (v:= ?_) rfl (by kernel_rfl) (fun _ _ _ h=>h) (Or.inl ⟨by rfl, ?_⟩) (KE.out _ RL.out) ?_
   rotate_left
   ·(intro u hu;obtain⟨s0,s1⟩:=hu;go_simp)
    try with_reducible rfl
   try simp only[Act.put,sA,sB,sC]
   refine tk 3 (oi:=⟨_,_,_,_,_,_⟩) (v:= .agg (ys).toArray) rfl (by kernel_rfl) (fun _ _ _ h=>h) (yieldsIf_load_mid (by kernel_rfl) 73 _ rfl (w.heap.size+1) 0 rfl (ys) _ (fun u hu=>hu.1) Tryz.underlying73 rfl HIY.out) (KE.out _ RL.out) ?_
   try simp only[Act.put,sA,sB,sC]
   refine wpAnyH_ready (rs:=[4]) (by kernel_rfl) (by simp) ?_
   refine AllReadyH.cons (o:=⟨_,_,_,_,_,_⟩) rfl (fun KQ hKK=> ?_) AllReadyH.nil
   refine(if_pos (show Region.wanted _ _=true by kernel_rfl)).mpr ?_
   refine Bm 60 _ _ rfl Sb _ rfl (C9.out _ (Below.and B0.out (Below.and G4.out.2.2.2.1 RL.out))) ?_
   rintro e w9 ⟨M,rfl,hM,hD,b9⟩
   obtain⟨F9,g9⟩:∃F9,∃g cap,Value.slice (some ⟨g0,0,none⟩) D.ns.length p0=Value.slice (some ⟨g,0,none⟩) D.ns.length cap/\w9.there g (k*23) 23/\NtG (Fq n) (Fj n) V0 U4 X QY sz c1 c3 (w9.setCells g (k*23) (Ax (M,DN))) F9 (.slice (some ⟨g0,0,none⟩) D.ns.length p0) c2 c4 ⟨E.ns.set k (M,DN),E.rs,E.cs,E.ds,E.ls⟩:=by
    obtain⟨g,cap,a1,a2,F9,a3⟩:=G4.out.putN (f:=(M,DN)) (H:=fun q=>U4.heap.size<=q/\q<w9.heap.size) (DO n) (DK n) (Below.and RL.out b9) hD.ltF (fun _ h=>h) k (by rw[HEN.out.1];exact hk)
    rw[HEN.out.1] at a1
    exact⟨F9,g,cap,a1,a2,a3⟩
   obtain⟨g,cap,hg,th,g9⟩:=g9
   simp only[Value.slice.injEq,Option.some.injEq,Addr.mk.injEq,and_true,true_and] at hg
   obtain⟨rfl,rfl⟩:=hg
   have LKE:=hq (LIKE.out M hM)
   obtain⟨ms,hms⟩:∃ms:List Value,ms=Ax (M,DN):=⟨_,rfl⟩
   have VM:M.val= .agg ms.toArray:=by rw[hms];rfl
   have hml:ms.length=23:=by rw[hms];rfl
   have ONM:Hid (ms.toArray.all (·.oneCell')=true):=by rw[hms];exact Bq.ones (D:=DN) (D' :=DN) hD.at
   rw[←hms] at g9
   have G9:=hq g9
   have TH:Hid (w9.there g0 (k*23) ms.toArray.size):=by rw[List.size_toArray,hml];exact th
   have HIM:Hid ((Tryz.prog.info? 73).map (·.size)=some ms.toArray.size):=by show _=_;rw[List.size_toArray,hml];exact(show(Tryz.prog.info? 73).map (·.size)=some 23 by kernel_rfl)
   replace RL:=hq (Below.and RL.out b9)
   refine⟨_,rfl, ?_⟩
   rw[VM]
   clear VM b9 hD hM hml th g9 hms LIKE C9;refine hKK.out _ _ (KE.out _ RL.out) (fun hH2=> ?_)
   clear hKK KQ hH2;try simp only[Act.put,sA,sB,sC]
   refine tk 5 (oi:=⟨_,_,_,_,_,_⟩) (v:= ?_) rfl (by kernel_rfl) (fun _ _ _ h=>h) (Or.inl ⟨by rfl, ?_⟩) (KE.out _ RL.out) ?_
   rotate_left
   ·(intro u hu;obtain⟨s0,s1⟩:=hu;go_simp)
    try with_reducible rfl
   try simp only[Act.put,sA,sB,sC]
   refine wpAnyH_done (by kernel_rfl) ?_ _
   show Oper.wp _ _ _ _ _ _
   refine wp_store_mid 73 _ _ rfl g0 (k*23) ms.toArray rfl rfl TH.out HIM.out ONM.out ?_
   rw[List.toList_toArray]
   clear TH ONM HIM RL KE G4;generalize (w9.setCells g0 (k*23) ms)=W6 at *
   have cz3:=(CZ.out _ (M0.out.step G9.out.2.2.2.1)).2.2
   have hc1:=HS.out.2.1
   have hent:Hid (((Bj N.lb DN.l ((D.cs.length:Int)+1)).take (ntK D.cs.length N.cm)).length=min (ntK D.cs.length N.cm) (Bj N.lb DN.l ((D.cs.length:Int)+1)).length):=by show _=_;rw[List.length_take]
   have HTS:Hid (((Bj N.lb DN.l ((D.cs.length:Int)+1)).take (ntK D.cs.length N.cm)).length<=2000):=by rw[hent.out];exact Nat.le_trans (Nat.min_le_left _ _) (MP _ _)
   have HNT:Hid (∀j,j<=((Bj N.lb DN.l ((D.cs.length:Int)+1)).take (ntK D.cs.length N.cm)).length->(¬(D.cs.length:Int)+1+j<=N.cm∨¬((D.cs.length+j:Nat):Int)<2000->j=((Bj N.lb DN.l ((D.cs.length:Int)+1)).take (ntK D.cs.length N.cm)).length)/\((D.cs.length:Int)+1+j<=N.cm->((D.cs.length+j:Nat):Int)<2000->(inB (wrap64 (wrap64 ((D.cs.length:Int)+1+j-N.lb)-1)) 0 ((DN.l.length:Int)-1)=true->∃m:Nat,wrap64 (wrap64 ((D.cs.length:Int)+1+j-N.lb)-1)=m/\m<DN.l.length/\j<((Bj N.lb DN.l ((D.cs.length:Int)+1)).take (ntK D.cs.length N.cm)).length/\((Bj N.lb DN.l ((D.cs.length:Int)+1)).take (ntK D.cs.length N.cm))[j]? =DN.l[m]?)/\(inB (wrap64 (wrap64 ((D.cs.length:Int)+1+j-N.lb)-1)) 0 ((DN.l.length:Int)-1)=false->j=((Bj N.lb DN.l ((D.cs.length:Int)+1)).take (ntK D.cs.length N.cm)).length))):=fun j hj=>by
    rw[hent.out] at hj ⊢
    have hk1:ntK D.cs.length N.cm<=j↔(¬(D.cs.length:Int)+1+j<=N.cm∨¬((D.cs.length+j:Nat):Int)<2000):=by unfold ntK;split<;>omega
    refine⟨fun h=>by have:=hk1.2 h;omega,fun h1 h2=> ?_⟩
    have hk2:j<ntK D.cs.length N.cm:=by
     rcases Nat.lt_or_ge j (ntK D.cs.length N.cm) with q|q
     ·exact q
     ·exact absurd (hk1.1 q) (fun e=>e.elim (fun e=>e h1) (fun e=>e h2))
    obtain⟨q1,q2⟩:=TZ (j:=j) HLB.out HS1.out (Nat.le_trans hc1 (by omega)) (by omega) rfl
    refine⟨fun h=> ?_,fun h=>by have:=q2 h;omega⟩
    obtain⟨m,m1,m2,m3,m4⟩:=q1 h
    exact⟨m,m1,m2,by omega,by rw[List.getElem?_take,if_pos hk2];exact m4⟩
   generalize (Bj N.lb DN.l ((D.cs.length:Int)+1)).take (ntK D.cs.length N.cm)=ts at *
   clear hent;go_upto_block 0 with fail
   go_cut [] (fun wx=>∃(F:Nat->Prop) (cv' :Value),Hid (NtG (Fq n) (Fj n) V0 U4 X QY sz c1 c3 wx F (.slice (some ⟨g0,0,none⟩) D.ns.length p0) cv' c4 ⟨E.ns.set k (M,DN),E.rs,E.cs++ts.map Ct,E.ds,E.ls⟩))
   case first=>
    have hl1:=HS1.out
    go_wp2_with fail;go_loopw [9,10] (fun i a wr=>∃(j:Nat) (F:Nat->Prop) (cv' :Value),j<=ts.length/\i= .int .i64 ((D.cs.length:Int)+1+j)/\Hid (NtG (Fq n) (Fj n) V0 U4 X QY sz c1 c3 wr F (.slice (some ⟨g0,0,none⟩) D.ns.length p0) cv' c4 ⟨E.ns.set k (M,DN),E.rs,E.cs++(ts.take j).map Ct,E.ds,E.ls⟩))
     (fun i _ _=>((D.cs.length:Int)+2+ts.length-intOf i).toNat)
    case atStart=>exact⟨0,F9,_,Nat.zero_le _,by simp,by rw[List.take_zero,List.map_nil,List.append_nil];exact G9.out⟩
    case round=>
     clear G9;obtain⟨j,F4,cv4,hj,rfl,G⟩:=hrel
     obtain⟨a9,q9,hv9⟩:=G.out.1.cmd.1.slice
     simp only at hv9
     have LT:Hid ((E.cs++(ts.take j).map Ct).length=D.cs.length+j):=by show _=_;rw[List.length_append,List.length_map,List.length_take,HEN.out.2.1];omega
     have nt:=HNT.out j hj
     rw[←LT.out] at nt
     generalize hLN:(E.cs++(ts.take j).map Ct).length=ln at hv9 nt
     subst hv9;have LNH:=hq hLN
     clear hLN;obtain⟨kk,hkk⟩:∃kk:Int,kk=(D.cs.length:Int)+1+j:=⟨_,rfl⟩
     have hts:=HTS.out
     have hkb1:0<=kk:=by omega
     have hkb2:kk<=3000000:=by omega
     rw[←hkk] at nt ⊢
     have HKK:=hq hkk
     have NT:=hq nt
     clear hkk nt;have nb:=NC.out wr _ (M1.out.step G.out.2.2.2.1)
     obtain⟨-, -, -,nb3,nb5, -,nb16⟩:=nb
     have cX:=(G.out.2.2.1.cells 3)
     simp only[List.getElem?_toArray,List.getElem?_cons_succ,List.getElem?_cons_zero] at cX
     by_cases h1:kk<=N.cm
     ·by_cases h2:(ln:Int)<2000
      ·go_upto_region 10 with fail
       have NT2:=NT.out.2 h1 h2
       generalize wrap64 (wrap64 (kk-N.lb)-1)=aa at *
       go_wp2_with fail;refine(Lv aa 0 ((DN.l.length:Int)-1) _).mono ?_
       rintro e w1 ⟨rfl,hw1⟩
       obtain rfl:wr=w1:=hw1.symm
       clear hw1
       cases hin:inB aa 0 ((DN.l.length:Int)-1)
       ·have hjn:=NT2.2 hin
        go_wp2_with fail;go_meet;exact⟨F4,_,by have g:=G.out;rw[hjn,List.take_length] at g;exact g⟩
       ·obtain⟨m,hm1,hm2,hm3,hm4⟩:=NT2.1 hin
        subst hm1;have hm5:(m:Int)<(DN.l.length:Int):=by omega
        have hal2:=hLL.out.1 (by omega)
        subst hal2;obtain⟨kc,hkc⟩:∃kc:List Value,kc=AM (Ct DN.l[m]):=⟨_,rfl⟩
        have hcl5:kc.length=5:=by rw[hkc];rfl
        have RM1:Hid (∀u,Below w.heap.size w u->u.rangeAt bl (ol+m*6+1) kc):=fun u hu q v hv=>by
         have:=hLL.out.2 u hu m hm2 (q+1) v (by rw[hkc] at hv;exact hv)
         rw[show ol+m*6+1+q=ol+m*6+(q+1) by omega]
         exact this
        have ONC:Hid (∀y∈kc,y.oneCell' =true):=fun y hy=>by rw[hkc] at hy;simp[AM] at hy;rcases hy with rfl|rfl|rfl|rfl|rfl<;>rfl
        have KC:Hid (kc=AM (Ct DN.l[m])):=hkc
        have TJ:Hid ((ts.take j).map Ct++[Ct DN.l[m]]=(ts.take (j+1)).map Ct):=by
         show _=_
         rw[List.take_succ_eq_append_getElem hm3,List.map_append,List.map_singleton]
         rw[List.getElem?_eq_getElem hm3,List.getElem?_eq_getElem hm2] at hm4
         rw[Option.some.inj hm4]
        clear hkc hm4 NT2 NT;obtain⟨i0,hi0,hz0,hz1,hz2⟩:=info_parts (show(Tryz.prog.info? 117).map (fun i=>(i.zero,i.size,i.bytes))=some (some (.agg #[.int .i64 0, .int .i64 0, .int .i64 0, .int .i64 0, .int .i64 0]),5,40) by kernel_rfl)
        have BS:=hq (fun (ks:List Value) (hl:ks.length=5)=>Bw (P:=Tryz.prog) 117 i0 _ 5 hi0 hz0 hz1 (by decide) (by decide) ks hl)
        have HMC:Hid ((Tryz.prog.info? 117).map (·.size)=some kc.length):=by show _=_;rw[hcl5];exact(show(Tryz.prog.info? 117).map (·.size)=some 5 by kernel_rfl)
        go_upto_region 11 with fail
        have KE:Hid (∀u,Below wr.heap.size wr u->(fun u:World=>u.cell? ⟨X,3,none⟩=some (.slice a9 ln q9)/\u.cell? ⟨w.heap.size+1,5,none⟩=some (.slice (some ⟨bl,ol,none⟩) DN.l.length ql)/\u.rangeAt bl (ol+m*6+1) kc) u):=fun u hu=>by
         have g:=G.out.step (DO n) (DK n) hu
         exact⟨(g.2.2.1.cells 3).trans rfl,(NC.out u _ (M1.out.step g.2.2.2.1)).2.2.2.2.1,RM1.out u (Below.and B0.out g.2.2.2.1)⟩
        have RL:Hid (Below wr.heap.size wr wr.drew):=(Below.refl _ _).drew
        refine BA (fun u:World=>u.cell? ⟨X,3,none⟩=some (.slice a9 ln q9)/\u.cell? ⟨w.heap.size+1,5,none⟩=some (.slice (some ⟨bl,ol,none⟩) DN.l.length ql)/\u.rangeAt bl (ol+m*6+1) kc) [_,_,_,_,_,_,_,_,_,_,_,_] _ rfl (by kernel_rfl) (by kernel_rfl) ?_
        refine tk 0 (oi:=⟨_,_,_,_,_,_⟩) (v:= ?_) rfl (by kernel_rfl) (fun _ _ _ h=>h) (Or.inl ⟨by rfl, ?_⟩) (KE.out _ RL.out) ?_
        rotate_left
        ·(intro u hu;obtain⟨s0,s1,s2⟩:=hu;go_simp)
         try with_reducible rfl
        try simp only[Act.put,sA,sB,sC]
        refine tk 1 (oi:=⟨_,_,_,_,_,_⟩) (v:= ?_) rfl (by kernel_rfl) (fun _ _ _ h=>h) (Or.inl ⟨by rfl, ?_⟩) (KE.out _ RL.out) ?_
        rotate_left
        ·(intro u hu;obtain⟨s0,s1,s2⟩:=hu;go_simp)
         try with_reducible rfl
        try simp only[Act.put,sA,sB,sC]
        refine tk 2 (oi:=⟨_,_,_,_,_,_⟩) (v:= ?_) rfl (by kernel_rfl) (fun _ _ _ h=>h) (Or.inl ⟨by rfl, ?_⟩) (KE.out _ RL.out) ?_
        rotate_left
        ·(intro u hu;obtain⟨s0,s1,s2⟩:=hu;go_simp)
         try with_reducible rfl
        try simp only[Act.put,sA,sB,sC]
        refine tk 3 (oi:=⟨_,_,_,_,_,_⟩) (v:= ?_) rfl (by kernel_rfl) (fun _ _ _ h=>h) (Or.inl ⟨by rfl, ?_⟩) (KE.out _ RL.out) ?_
        rotate_left
        ·(intro u hu;obtain⟨s0,s1,s2⟩:=hu;go_simp)
         try with_reducible rfl
        try simp only[Act.put,sA,sB,sC]
        refine tk 4 (oi:=⟨_,_,_,_,_,_⟩) (v:= ?_) rfl (by kernel_rfl) (fun _ _ _ h=>h) (Or.inl ⟨by rfl, ?_⟩) (KE.out _ RL.out) ?_
        rotate_left
        ·(intro u hu;obtain⟨s0,s1,s2⟩:=hu;go_simp)
         try with_reducible rfl
        try simp only[Act.put,sA,sB,sC]
        refine tk 5 (oi:=⟨_,_,_,_,_,_⟩) (v:= ?_) rfl (by kernel_rfl) (fun _ _ _ h=>h) (Or.inl ⟨by rfl, ?_⟩) (KE.out _ RL.out) ?_
        rotate_left
        ·(intro u hu;obtain⟨s0,s1,s2⟩:=hu;go_simp)
         try with_reducible rfl
        try simp only[Act.put,sA,sB,sC]
        refine tk 6 (oi:=⟨_,_,_,_,_,_⟩) (v:= ?_) rfl (by kernel_rfl) (fun _ _ _ h=>h) (Or.inl ⟨by rfl, ?_⟩) (KE.out _ RL.out) ?_
        rotate_left
        ·(intro u hu;obtain⟨s0,s1,s2⟩:=hu;go_simp)
         try with_reducible rfl
        try simp only[Act.put,sA,sB,sC]
        refine tk 7 (oi:=⟨_,_,_,_,_,_⟩) (v:= ?_) rfl (by kernel_rfl) (fun _ _ _ h=>h) (Or.inl ⟨by rfl, ?_⟩) (KE.out _ RL.out) ?_
        rotate_left
        ·(intro u hu;obtain⟨s0,s1,s2⟩:=hu;go_simp)
         try with_reducible rfl
        try simp only[Act.put,sA,sB,sC]
        refine tk 8 (oi:=⟨_,_,_,_,_,_⟩) (v:= .agg (kc).toArray) rfl (by kernel_rfl) (fun _ _ _ h=>h) (yieldsIf_load_mid (by kernel_rfl) 117 _ rfl bl (ol+m*6+1) rfl (kc) _ (fun u hu=>hu.2.2) Tryz.underlying117 rfl HMC.out) (KE.out _ RL.out) ?_
        try simp only[Act.put,sA,sB,sC]
        refine wpAnyH_ready (rs:=[9]) (by kernel_rfl) (by simp) ?_
        refine AllReadyH.cons (o:=⟨_,_,_,_,_,_⟩) rfl (fun KQ hKK=> ?_) AllReadyH.nil
        refine(if_pos (show Region.wanted _ _=true by kernel_rfl)).mpr ?_
        refine D9 33 117 1 _ rfl Tryz.underlying33 kc.toArray (by rw[Array.toList_map];exact BS.out kc hcl5) ?_
        have HR:Hid (Row (wr.drew.alloc (.cells kc.toArray 117)) (.slice (some ⟨wr.drew.heap.size,0,none⟩) 1 1) 1 kc):=Row.laid wr.drew kc 117 _ rfl
        replace RL:=hq (Below.and RL.out (Ae wr.drew (.cells kc.toArray 117)))
        refine hKK.out _ _ (KE.out _ RL.out) (fun hH2=> ?_)
        clear hKK KQ hH2;try simp only[Act.put,sA,sB,sC]
        generalize (wr.drew.alloc (.cells kc.toArray 117))=W4 at *
        generalize wr.drew.heap.size=blk at *
        have OE:=hq ((G.out.1.cmd.1).below RL.out)
        have RM:Hid ((E.cs++(ts.take j).map Ct).length+1<=maxLen/\((E.cs++(ts.take j).map Ct).length+1)*40<=140737488355328):=by have:=LT.out;unfold maxLen;exact⟨by omega,by omega⟩
        refine wpAnyH_ready (rs:=[10]) (by kernel_rfl) (by simp) ?_
        refine AllReadyH.cons (o:=⟨_,_,_,_,_,_⟩) rfl (fun KQ hKK=> ?_) AllReadyH.nil
        refine(if_pos (show Region.wanted _ _=true by kernel_rfl)).mpr ?_
        refine DW W4 _ _ 33 rfl 0 117 i0 _ 5 40 Tryz.underlying33 hi0 hz0 hz1 hz2 rfl (by decide) (.slice a9 ln q9) (E.cs++(ts.take j).map Ct).length ((E.cs++(ts.take j).map Ct).map AM).flatten rfl OE.out (.slice (some ⟨blk,0,none⟩) 1 1) 1 kc rfl HR.out (by rw[hcl5]) ONC.out RM.out.1 RM.out.2 (Nat.zero_le _) ?_
        intro v' x AP;obtain⟨bx,kq,F5,g5⟩:=G.out.addC (fs:=[Ct DN.l[m]]) (DO n) (DK n) RL.out (by rw[List.map_singleton,List.flatten_singleton, ← KC.out];exact AP)
        have bBx:Below V0.heap.size V0 x:=(Below.and G.out.2.2.2.1 RL.out).trans (AP.2.1.below (fun g _ e=>(G.out.2.1 g (G.out.1.cmd.2 g e)).1) (Nat.le_trans G.out.2.2.2.1.size RL.out.size))
        obtain⟨a8,q8,hv8⟩:=Ac.slice AP.1
        generalize hl8:(E.cs++(ts.take j).map Ct).length+1=ln8 at hv8
        subst hv8;have SX:Hid (x.cell? ⟨X,3,none⟩=some (.slice a9 ln q9)/\x.cell? ⟨w.heap.size+1,5,none⟩=some (.slice (some ⟨bl,ol,none⟩) DN.l.length ql)/\x.rangeAt bl (ol+m*6+1) kc):=⟨(bx.cells 3).trans rfl,(NC.out x _ (M1.out.step bBx)).2.2.2.2.1,RM1.out x (Below.and B0.out bBx)⟩
        have FIN:Hid (NtG (Fq n) (Fj n) V0 U4 X QY sz c1 c3 (x.setCell ⟨X,3,none⟩ (.slice a8 ln8 q8)) F5 (.slice (some ⟨g0,0,none⟩) D.ns.length p0) (.slice a8 ln8 q8) c4 ⟨E.ns.set k (M,DN),E.rs,E.cs++(ts.take (j+1)).map Ct,E.ds,E.ls⟩):=by
         have:=g5
         rw[List.append_assoc,TJ.out] at this
         exact this
        have BX:=hq bx
        clear bx kq g5 AP OE LT RM HR LNH hl8 KE RL G KC ONC HMC bBx TJ RM1 nb3 nb5 nb16 cX;refine hKK.out _ _ SX.out (fun hH2=> ?_)
        clear hKK KQ hH2;try simp only[Act.put,sA,sB,sC]
        refine tk 11 (oi:=⟨_,_,_,_,_,_⟩) (v:= ?_) rfl (by kernel_rfl) (fun _ _ _ h=>h) (Or.inl ⟨by rfl, ?_⟩) SX.out ?_
        rotate_left
        ·(intro u hu;obtain⟨s0,s1,s2⟩:=hu;go_simp)
         try with_reducible rfl
        try simp only[Act.put,sA,sB,sC]
        clear SX;refine wpAnyH_done (by kernel_rfl) ?_ _
        show Oper.wp _ _ _ _ _ _
        have c5:=BX.out.cells
        have f5:∀q,x.frozen? ⟨X,q,none⟩=false:=fun q=>Ab BX.out
        go_wp2_with fail;go_roundw
        case rel=>exact⟨j+1,_,_,by omega,by rw[show(D.cs.length:Int)+1+((j+1:Nat):Int)=kk+1 by have:=HKK.out;omega],FIN.out⟩
        case measure=>have:=HKK.out;simp[intOf];omega
      ·have hjn:=NT.out.1 (.inr (by omega))
       go_wp2_with fail;go_meet;exact⟨F4,_,by have g:=G.out;rw[hjn,List.take_length] at g;exact g⟩
     ·have hjn:=NT.out.1 (.inl (by omega))
      go_wp2_with fail;go_meet;exact⟨F4,_,by have g:=G.out;rw[hjn,List.take_length] at g;exact g⟩
   case rest=>
    clear HNT HTS G9 hLL HLB HS1 cz3;obtain⟨F7,cv7,G7⟩:=hcut
    obtain⟨la8,lq8,hv8⟩:=G7.out.1.led.1.slice
    simp only at hv8
    rw[HEN.out.2.2] at hv8
    subst hv8;have NTB:Hid (ntB N P D.ls.length=((N.ro==2&& !(P.ro==2&&P.te==N.te))&&decide (D.ls.length<2000))):=rfl
    have py:=PC.out _ Y (G7.out.kept HQY.out YM.out)
    obtain⟨py1,py12⟩:=py
    have nb:=NC.out _ _ (M1.out.step G7.out.2.2.2.1)
    obtain⟨-,nb0,nb1, -, -,nb12, -⟩:=nb
    have cX:=(G7.out.2.2.1.cells 5)
    simp only[List.getElem?_toArray,List.getElem?_cons_succ,List.getElem?_cons_zero] at cX
    go_upto_region 12 with fail
    go_cut [100] (fun s wx=>s= .bool (ntB N P D.ls.length)/\Hid (Below wc.heap.size wc wx))
    case first=>
     clear G7 LKE;generalize N.ro=ro at *
     generalize N.te=te at *
     generalize P.ro=pro at *
     generalize P.te=pte at *
     have hbn:(pro==2)= !(pro != 2):=by simp[bne]
     have hbm:(pte==te)= !(pte != te):=by simp[bne]
     have HB:=hq (And.intro hbn hbm)
     clear hbn hbm;have FIN:Hid (Below wc.heap.size wc wc):=Below.refl _ _
     cases r1:(ro==2)
     ·go_wp2_with fail;go_meet;exact⟨by rw[NTB.out,r1];rfl,FIN.out⟩
     ·cases r2:(pro != 2)
      ·cases r3:(pte != te)
       ·go_wp2_with fail;go_meet;exact⟨by rw[NTB.out,r1,HB.out.1,HB.out.2,r2,r3];rfl,FIN.out⟩
       ·by_cases r4:D.ls.length<2000
        ·have r5:(D.ls.length:Int)<2000:=by omega
         go_wp2_with fail;go_meet;exact⟨by rw[NTB.out,r1,HB.out.1,HB.out.2,r2,r3,decide_eq_true r4];rfl,FIN.out⟩
        ·have r5:¬(D.ls.length:Int)<2000:=by omega
         go_wp2_with fail;go_meet;exact⟨by rw[NTB.out,decide_eq_false r4,Bool.and_false],FIN.out⟩
      ·by_cases r4:D.ls.length<2000
       ·have r5:(D.ls.length:Int)<2000:=by omega
        go_wp2_with fail;go_meet;exact⟨by rw[NTB.out,r1,HB.out.1,r2,decide_eq_true r4];rfl,FIN.out⟩
       ·have r5:¬(D.ls.length:Int)<2000:=by omega
        go_wp2_with fail;go_meet;exact⟨by rw[NTB.out,decide_eq_false r4,Bool.and_false],FIN.out⟩
    case rest=>
     obtain⟨rfl,BZ⟩:=hcut
     have G8:=hq (G7.out.step (DO n) (DK n) BZ.out)
     clear G7 BZ py1 py12 nb0 nb1 nb12 cX NTB PC YM;generalize ntB N P D.ls.length=bb at *
     go_upto_if 100 with fail
     go_cut [] (fun wx=>∃(F:Nat->Prop) (lv' :Value),Hid (NtG (Fq n) (Fj n) V0 U4 X QY sz c1 c3 wx F (.slice (some ⟨g0,0,none⟩) D.ns.length p0) cv7 lv' ⟨E.ns.set k (M,DN),E.rs,E.cs++ts.map Ct,E.ds,E.ls++(if bb then [(N.te,N.id)] else [])⟩))
     case first=>
      cases bb
      ·go_wp2_with fail;go_meet;exact⟨F7,_,by rw[if_neg Bool.false_ne_true,List.append_nil];exact G8.out⟩
      ·obtain⟨i0,hi0,hz0,hz1,hz2⟩:=info_parts (show(Tryz.prog.info? 121).map (fun i=>(i.zero,i.size,i.bytes))=some (some (.agg #[.int .i64 0, .int .i64 0]),2,16) by kernel_rfl)
       have BS:=Bw (P:=Tryz.prog) 121 i0 _ 2 hi0 hz0 hz1 (by decide) (by decide) [.int .i64 N.te, .int .i64 N.id] rfl
       have b4:Below wc.heap.size wc (wc.alloc (.cells #[.int .i64 N.te, .int .i64 N.id] 121)):=Ae _ _
       have HR:Hid (Row (wc.alloc (.cells #[.int .i64 N.te, .int .i64 N.id] 121)) (.slice (some ⟨wc.heap.size,0,none⟩) 1 1) 1 [.int .i64 N.te, .int .i64 N.id]):=Row.laid wc [.int .i64 N.te, .int .i64 N.id] 121 _ rfl
       have OE:=hq ((G8.out.1.led.1).below b4)
       have hls:E.ls.length=D.ls.length:=HEN.out.2.2
       have HLS:=HS.out.2.2
       have nb:=NC.out _ _ (M1.out.step G8.out.2.2.2.1)
       obtain⟨-,nb0,nb1, -, -, -, -⟩:=nb
       have cX:=(G8.out.2.2.1.cells 5)
       simp only[List.getElem?_toArray,List.getElem?_cons_succ,List.getElem?_cons_zero] at cX
       have RM:Hid (E.ls.length+1<=maxLen/\(E.ls.length+1)*16<=140737488355328):=by unfold maxLen;exact⟨by omega,by omega⟩
       have ON:Hid (∀y∈([.int .i64 N.te, .int .i64 N.id]:List Value),y.oneCell' =true):=fun y hy=>by simp at hy;rcases hy with rfl|rfl<;>rfl
       simp only at OE
       rw[hls] at OE RM
       go_wp2_with (first|(at_builtin;refine BO (wc.alloc (.cells #[.int .i64 N.te, .int .i64 N.id] 121)) rfl _ _ 35 rfl 0 121 i0 _ 2 16 Tryz.underlying35 hi0 hz0 hz1 hz2 rfl (by decide) (.slice la8 D.ls.length lq8) D.ls.length (E.ls.map AN).flatten rfl OE.out (.slice (some ⟨wc.heap.size,0,none⟩) 1 1) 1 [.int .i64 N.te, .int .i64 N.id] rfl HR.out rfl ON.out RM.out.1 RM.out.2 (Nat.zero_le _) ?_)|(refine Go.Great.wpList_buildSliceTo rfl 35 121 1 _ rfl wc.heap.size rfl _ rfl Tryz.underlying35 #[.int .i64 N.te, .int .i64 N.id] (by rw[Array.toList_map];exact BS) ?_))
       intro v' x AP;obtain⟨bx,_,F9,g9⟩:=G8.out.addL (fs:=[(N.te,N.id)]) (DO n) (DK n) b4 (by rw[hls];exact AP)
       obtain⟨a8,q8,hv8⟩:=Ac.slice AP.1
       generalize hl8:D.ls.length+1=ln8 at hv8
       subst hv8;have c5:=bx.cells
       have f5:∀q,x.frozen? ⟨X,q,none⟩=false:=fun q=>Ab bx
       have FIN:=hq g9
       clear AP g9 OE HR b4 G8 hl8 RM;go_wp2_with fail;go_meet;exact⟨F9,_,by rw[if_pos trivial];exact FIN.out⟩
     case rest=>
      clear G8;obtain⟨F8,lv8,G8⟩:=hcut
      have G:=hq G8.out.1
      have FX:Hid (∀g,F8 g->V0.heap.size<=g/\g<wc.heap.size):=fun g hg=>⟨(G8.out.2.1 g hg).1,(G8.out.2.1 g hg).2.1⟩
      have BX:=hq G8.out.2.2.1
      have BW:=hq G8.out.2.2.2.1
      clear G8;obtain⟨cs,hcs⟩:∃cs:List Value,cs=[.int .i64 sz, .slice (some ⟨g0,0,none⟩) D.ns.length p0,c1,cv7,c3,lv8]:=⟨_,rfl⟩
      have hcl:cs.length=6:=by rw[hcs];rfl
      have ONC:Hid (cs.toArray.all (·.oneCell')=true):=by rw[hcs];exact(WrS.at (Hd n) (Hh n) G.out).ones6
      have RGX:Hid (wc.rangeAt X 0 cs):=by rw[hcs];exact Ao BX.out
      have TH:Hid (wc.there (w.heap.size+2) 0 cs.toArray.size):=Ba (M2.out.step BW.out) (show 6=cs.toArray.size by rw[List.size_toArray,hcl])
      have HI1:Hid ((Tryz.prog.info? 37).map (·.size)=some cs.length):=by show _=_;rw[hcl];exact(show(Tryz.prog.info? 37).map (·.size)=some 6 by kernel_rfl)
      have HI2:Hid ((Tryz.prog.info? 37).map (·.size)=some cs.toArray.size):=by show _=_;rw[List.size_toArray,hcl];exact(show(Tryz.prog.info? 37).map (·.size)=some 6 by kernel_rfl)
      have GC:Chg (fun g=>g=w.heap.size+2) wc (wc.setCells (w.heap.size+2) 0 cs):=Chg.setCells (F:=fun b=>b=w.heap.size+2) (g:=w.heap.size+2) (fun _=>rfl) cs 0 wc (Chg.refl _ _)
      have X1:Hid ((wc.setCells (w.heap.size+2) 0 cs).heap[w.heap.size+2]? =some (.cells cs.toArray 37 (0,0))):=A7 (M2.out.step BW.out) cs (by rw[hcl];rfl)
      have FIN:Hid (∃(V:WrV) (E:Wd) (F:Nat->Prop),Value.agg cs.toArray=V.val/\sz=V.sz/\(D.note sz (k:Int) N DN).like E/\WrS (Fq n) (Fj n) (wc.setCells (w.heap.size+2) 0 cs) F V E/\(∀g,F g->w.heap.size<=g/\g<(wc.setCells (w.heap.size+2) 0 cs).heap.size)/\Below w.heap.size w (wc.setCells (w.heap.size+2) 0 cs)):=by
       have hgs:=GC.size
       exact⟨⟨sz, .slice (some ⟨g0,0,none⟩) D.ns.length p0,c1,cv7,c3,lv8⟩,_,_,by rw[hcs],rfl,LKE.out,G.out.chg (DO n) (DK n) GC (fun g hg e=>by have:=(FX.out g hg).1;have:=ZZ.out;omega),fun g hg=>by have:=FX.out g hg;have:=ZZ.out;omega,(Below.and B0.out BW.out).trans (GC.below (fun g _ hg=>by omega) (Nat.le_trans B0.out.size BW.out.size))⟩
      clear GC G LKE NC HEN BX FX BW hcs M0 M1 M2 B0 ZZ CZ HIY;go_wp2_with (first|(refine wpList_load_mid rfl 37 _ rfl X 0 rfl cs _ RGX.out Tryz.underlying37 rfl HI1.out ?_)|(refine wpList_store_mid rfl 37 _ _ rfl (w.heap.size+2) 0 cs.toArray rfl rfl TH.out HI2.out ONC.out ?_))
      generalize wc.setCells (w.heap.size+2) 0 cs=WF at *
      exact⟨rfl,_,results_cell_row Tryz.results17 _ WF (w.heap.size+2) 37 cs.toArray (0,0) _ rfl X1.out Tryz.underlying37 rfl HI2.out,(by obtain⟨V,E,F,e,e2,r⟩:=FIN.out;first|exact⟨V,E,F,by rw[e],e2,r⟩|exact⟨V,by rw[e],e2,E,F,r⟩|exact⟨V,by rw[e],e2,E,r.1,F,r.2⟩)⟩
  ·have LKE:Hid ((D.note sz i N DN).like E):=by unfold Wd.note;rw[if_neg hib];exact LK.out
   have G:=G0
   have FX:Hid (∀g,(V0.heap.size<=g/\g<X)->V0.heap.size<=g/\g<wc.heap.size):=fun g hg=>⟨hg.1,by have:=hg.2;have:=XM.out.2;omega⟩
   have BX:=BX0
   have BW:=BW0
   have hdis:inB i 0 ((D.ns.length:Int)-1)=false∨(inB i 0 ((D.ns.length:Int)-1)=true/\sz<=i):=by
    cases hx:inB i 0 ((D.ns.length:Int)-1)
    ·exact .inl rfl
    ·refine .inr ⟨rfl, ?_⟩
     have:=DX.1 hx
     rcases Int.lt_or_le i sz with q|q
     ·exact absurd (DX.2 (by omega)) hib
     ·exact q
   clear C9 hRP hLL HLB HS1 LK G0 BX0 BW0 hib hat NC cz3;go_upto_region 2 with fail
   rcases hdis with hx|⟨hx,hy⟩
   all_goals
    go_wp2_with fail;refine(ISO.out _).mono ?_
    rintro e w1 ⟨rfl,hw1⟩
    obtain rfl:wc=w1:=hw1.symm
    rw[hx]
    clear ISO cz1 hw1 hx;obtain⟨cs,hcs⟩:∃cs:List Value,cs=[.int .i64 sz,c0,c1,c2,c3,c4]:=⟨_,rfl⟩
    have hcl:cs.length=6:=by rw[hcs];rfl
    have ONC:Hid (cs.toArray.all (·.oneCell')=true):=by rw[hcs];exact(WrS.at (Hd n) (Hh n) G.out).ones6
    have RGX:Hid (wc.rangeAt X 0 cs):=by rw[hcs];exact Ao BX.out
    have TH:Hid (wc.there (w.heap.size+2) 0 cs.toArray.size):=Ba (M2.out.step BW.out) (show 6=cs.toArray.size by rw[List.size_toArray,hcl])
    have HI1:Hid ((Tryz.prog.info? 37).map (·.size)=some cs.length):=by show _=_;rw[hcl];exact(show(Tryz.prog.info? 37).map (·.size)=some 6 by kernel_rfl)
    have HI2:Hid ((Tryz.prog.info? 37).map (·.size)=some cs.toArray.size):=by show _=_;rw[List.size_toArray,hcl];exact(show(Tryz.prog.info? 37).map (·.size)=some 6 by kernel_rfl)
    have GC:Chg (fun g=>g=w.heap.size+2) wc (wc.setCells (w.heap.size+2) 0 cs):=Chg.setCells (F:=fun b=>b=w.heap.size+2) (g:=w.heap.size+2) (fun _=>rfl) cs 0 wc (Chg.refl _ _)
    have X1:Hid ((wc.setCells (w.heap.size+2) 0 cs).heap[w.heap.size+2]? =some (.cells cs.toArray 37 (0,0))):=A7 (M2.out.step BW.out) cs (by rw[hcl];rfl)
    have FIN:Hid (∃(V:WrV) (E:Wd) (F:Nat->Prop),Value.agg cs.toArray=V.val/\sz=V.sz/\(D.note sz i N DN).like E/\WrS (Fq n) (Fj n) (wc.setCells (w.heap.size+2) 0 cs) F V E/\(∀g,F g->w.heap.size<=g/\g<(wc.setCells (w.heap.size+2) 0 cs).heap.size)/\Below w.heap.size w (wc.setCells (w.heap.size+2) 0 cs)):=by
     have hgs:=GC.size
     exact⟨⟨sz,c0,c1,c2,c3,c4⟩,_,_,by rw[hcs],rfl,LKE.out,G.out.chg (DO n) (DK n) GC (fun g hg e=>by have:=(FX.out g hg).1;have:=ZZ.out;omega),fun g hg=>by have:=FX.out g hg;have:=ZZ.out;omega,(Below.and B0.out BW.out).trans (GC.below (fun g _ hg=>by omega) (Nat.le_trans B0.out.size BW.out.size))⟩
    clear GC G LKE BX FX BW hcs M0 M1 M2 B0 ZZ CZ HIY;go_wp2_with (first|(refine wpList_load_mid rfl 37 _ rfl X 0 rfl cs _ RGX.out Tryz.underlying37 rfl HI1.out ?_)|(refine wpList_store_mid rfl 37 _ _ rfl (w.heap.size+2) 0 cs.toArray rfl rfl TH.out HI2.out ONC.out ?_))
    generalize wc.setCells (w.heap.size+2) 0 cs=WF at *
    exact⟨rfl,_,results_cell_row Tryz.results17 _ WF (w.heap.size+2) 37 cs.toArray (0,0) _ rfl X1.out Tryz.underlying37 rfl HI2.out,(by obtain⟨V,E,F,e,e2,r⟩:=FIN.out;first|exact⟨V,E,F,by rw[e],e2,r⟩|exact⟨V,by rw[e],e2,E,F,r⟩|exact⟨V,by rw[e],e2,E,r.1,F,r.2⟩)⟩
end
end Go.Proofs.YtkcaelfkcepdkaaGreat
