/-
  The program's Note.
-/
import Derived.Test.YtkcaelfkcepdkaaGreatOfNote43
namespace Go.Proofs.YtkcaelfkcepdkaaGreat
set_option maxRecDepth 100000
set_option maxHeartbeats 8000000
section
open Go.RowKit

theorem J9 (n:Nat) (W:WrV) (D:Wd) (lo hi:Nat) (w:World) (h:WrI n w lo hi W D) (hs:D.small n) (i:Int) (N:AL) (DN:Nd) (F1 F2:Nat->Prop) (hN:Bq n w N DN) (hsN:DN.small n) (s1:Src true n w F1 N.s.x DN.T1) (s2:Src true n w F2 N.o.x DN.T2) (hb:I64 N.lb) :
  Calls Tryz.prog 19 #[W.val, .int .i64 i,N.val] w fun e w' =>∃(V:WrV) (E:Wd) (F:Nat->Prop),e= .returned V.val/\W.sz=V.sz/\(D.note W.sz i N DN).like E/\WrS (De n) (Dh n) w' F V E/\(∀g,F g->w.heap.size<=g/\g<w'.heap.size)/\Below w.heap.size w w' :=by
 have hat:=h.at
 obtain⟨sz,nv,rv,cv,av,lv⟩:=W
 obtain⟨na,nq,hnv,_⟩:=hat.1.len
 simp only at hnv
 subst hnv;obtain⟨zs,has⟩:∃zs:List Value,zs=[.int .i64 sz, .slice na D.ns.length nq,rv,cv,av,lv]:=⟨_,rfl⟩
 have hal:zs.length=6:=by rw[has];rfl
 have VW:(WrV.mk sz (.slice na D.ns.length nq) rv cv av lv).val= .agg zs.toArray:=by rw[has]
 obtain⟨ys,hys⟩:∃ys:List Value,ys=Ax (N,DN):=⟨_,rfl⟩
 have hyl:ys.length=23:=by rw[hys];rfl
 have VN:N.val= .agg ys.toArray:=by rw[hys];rfl
 have HYS:=hq hys
 clear hys;have CN:=hq (fun (u:World) (hu:Below w.heap.size w u)=>Fk n N DN true F1 F2 u (hN.below hu) hsN (s1.below hu) (s2.below hu) (fun h=>by cases h))
 have RWN:=hq hN.1
 have HLB:=hq hb
 have HS1:=hq hsN.1
 have HS:=hq (And.intro hs.n (And.intro hs.c hs.l))
 clear hN hsN s1 s2 hb;have CP:=hq (fun (u:World) (hu:Below w.heap.size w u)=>Ic n ⟨sz, .slice na D.ns.length nq,rv,cv,av,lv⟩ D lo hi u (h.below hu) hs)
 have CZ:Hid (∀u,Ai 37 u w.heap.size zs.toArray->u.cell? ⟨w.heap.size,0,none⟩=some (.int .i64 sz)/\u.cell? ⟨w.heap.size,1,none⟩=some (.slice na D.ns.length nq)/\u.cell? ⟨w.heap.size,3,none⟩=some cv):=fun u hu=>by rw[has] at hu;exact⟨(hu.cells 0).trans rfl,(hu.cells 1).trans rfl,(hu.cells 3).trans rfl⟩
 rw[VW] at CP ⊢
 rw[VN]
 have b0:Below w.heap.size w (((w.alloc (.cells zs.toArray 37)).alloc (.cells ys.toArray 73)).alloc (.cells #[.int .i64 0, .slice none 0 0, .slice none 0 0, .slice none 0 0, .slice none 0 0, .slice none 0 0] 37)):=Below.and (Ae _ _) (Below.and (Ae _ _) (Ae _ _))
 have m0:=Ai.step (Ai.step (Ai.start 37 w zs.toArray) (Ae _ (.cells ys.toArray 73))) (Ae _ (.cells #[.int .i64 0, .slice none 0 0, .slice none 0 0, .slice none 0 0, .slice none 0 0, .slice none 0 0] 37))
 have m1:=Ai.step (Ai.start 73 (w.alloc (.cells zs.toArray 37)) ys.toArray) (Ae _ (.cells #[.int .i64 0, .slice none 0 0, .slice none 0 0, .slice none 0 0, .slice none 0 0, .slice none 0 0] 37))
 have m2:=Ai.start 37 ((w.alloc (.cells zs.toArray 37)).alloc (.cells ys.toArray 73)) #[.int .i64 0, .slice none 0 0, .slice none 0 0, .slice none 0 0, .slice none 0 0, .slice none 0 0]
 simp only[World.size_alloc] at m1 m2
 have B0:=hq b0
 have M0:=hq m0
 have M1:=hq m1
 have M2:=hq m2
 have HIA:Hid ((Tryz.prog.info? 37).map (·.size)=some zs.length):=by show _=_;rw[hal];exact(show(Tryz.prog.info? 37).map (·.size)=some 6 by kernel_rfl)
 have HIY:Hid ((Tryz.prog.info? 73).map (·.size)=some ys.length):=by show _=_;rw[hyl];exact(show(Tryz.prog.info? 73).map (·.size)=some 23 by kernel_rfl)
 have ZZ:Hid (w.heap.size+3=(((w.alloc (.cells zs.toArray 37)).alloc (.cells ys.toArray 73)).alloc (.cells #[.int .i64 0, .slice none 0 0, .slice none 0 0, .slice none 0 0, .slice none 0 0, .slice none 0 0] 37)).heap.size):=by show _=_;simp
 clear b0 m0 m1 m2 VW has hal VN;go_enter Tryz.func19,Tryz.ntmps19
 go_upto_region 1 with fail
 generalize (((w.alloc (.cells zs.toArray 37)).alloc (.cells ys.toArray 73)).alloc (.cells #[.int .i64 0, .slice none 0 0, .slice none 0 0, .slice none 0 0, .slice none 0 0, .slice none 0 0] 37))=V0 at *
 go_cut [7] (fun s5 wx=>∃(X:Nat) (c0 c1 c2 c3 c4:Value) (E:Wd),s5= .pointer (some ⟨X,0,none⟩)/\Hid (D.like E)/\Hid (WrS (De n) (Dh n) wx (fun g=>V0.heap.size<=g/\g<X) ⟨sz,c0,c1,c2,c3,c4⟩ E)/\Hid (Ai 37 wx X #[.int .i64 sz,c0,c1,c2,c3,c4])/\Hid (Below V0.heap.size V0 wx)/\Hid (V0.heap.size<=X/\X<wx.heap.size))
 case first=>
  have RA:Hid (V0.rangeAt w.heap.size 0 zs):=by have:=Ao M0.out;rw[List.toList_toArray] at this;exact this
  go_wp2_with (refine wpList_load_mid rfl 37 _ rfl w.heap.size 0 rfl zs _ RA.out Tryz.underlying37 rfl HIA.out ?_)
  refine(CP.out V0 B0.out).mono ?_
  rintro e w1 ⟨V,E,rfl,hsz,hl,hW,hb⟩
  replace hW:=WrI.s hW
  obtain⟨sz1,c0,c1,c2,c3,c4⟩:=V
  simp only at hsz
  subst hsz;obtain⟨cs,hcs⟩:∃cs:List Value,cs=[.int .i64 sz,c0,c1,c2,c3,c4]:=⟨_,rfl⟩
  have hcl:cs.length=6:=by rw[hcs];rfl
  have ONC:Hid (cs.toArray.all (·.oneCell')=true):=by rw[hcs];exact(WrS.at (Ej n) (El n) hW).ones6
  have VC:(WrV.mk sz c0 c1 c2 c3 c4).val= .agg cs.toArray:=by rw[hcs]
  rw[VC]
  have HI2:Hid ((Tryz.prog.info? 37).map (·.size)=some cs.toArray.size):=by show _=_;rw[List.size_toArray,hcl];exact(show(Tryz.prog.info? 37).map (·.size)=some 6 by kernel_rfl)
  have Y:=hq (Ai.start 37 w1 #[.int .i64 0, .slice none 0 0, .slice none 0 0, .slice none 0 0, .slice none 0 0, .slice none 0 0])
  have TH:Hid ((w1.alloc (.cells #[.int .i64 0, .slice none 0 0, .slice none 0 0, .slice none 0 0, .slice none 0 0, .slice none 0 0] 37)).there w1.heap.size 0 cs.toArray.size):=Ba Y.out (show 6=cs.toArray.size by rw[List.size_toArray,hcl])
  have ba:Below w1.heap.size w1 (w1.alloc (.cells #[.int .i64 0, .slice none 0 0, .slice none 0 0, .slice none 0 0, .slice none 0 0, .slice none 0 0] 37)):=Ae _ _
  have GC:Chg (fun g=>g=w1.heap.size) (w1.alloc (.cells #[.int .i64 0, .slice none 0 0, .slice none 0 0, .slice none 0 0, .slice none 0 0, .slice none 0 0] 37)) ((w1.alloc (.cells #[.int .i64 0, .slice none 0 0, .slice none 0 0, .slice none 0 0, .slice none 0 0, .slice none 0 0] 37)).setCells w1.heap.size 0 cs):=Chg.setCells (F:=fun g=>g=w1.heap.size) (g:=w1.heap.size) (fun _=>rfl) cs 0 _ (Chg.refl _ _)
  have XF:Hid (Ai 37 ((w1.alloc (.cells #[.int .i64 0, .slice none 0 0, .slice none 0 0, .slice none 0 0, .slice none 0 0, .slice none 0 0] 37)).setCells w1.heap.size 0 cs) w1.heap.size cs.toArray):=A7 Y.out cs (by rw[hcl];rfl)
  have B3:Below w1.heap.size w1 ((w1.alloc (.cells #[.int .i64 0, .slice none 0 0, .slice none 0 0, .slice none 0 0, .slice none 0 0, .slice none 0 0] 37)).setCells w1.heap.size 0 cs):=ba.trans (GC.below (fun g _ hg=>by omega) ba.size)
  have B4:Hid (Below V0.heap.size V0 ((w1.alloc (.cells #[.int .i64 0, .slice none 0 0, .slice none 0 0, .slice none 0 0, .slice none 0 0, .slice none 0 0] 37)).setCells w1.heap.size 0 cs)):=hb.trans (B3.mono hb.size)
  have S1:Hid (V0.heap.size<=w1.heap.size/\w1.heap.size<((w1.alloc (.cells #[.int .i64 0, .slice none 0 0, .slice none 0 0, .slice none 0 0, .slice none 0 0, .slice none 0 0] 37)).setCells w1.heap.size 0 cs).heap.size):=⟨hb.size,by have:=GC.size;simp only[World.size_alloc] at this;show _<_;omega⟩
  have W3:=hq (hW.below (Bo n) (Bp n) B3)
  have HL:=hq hl
  have XF2:Hid (Ai 37 ((w1.alloc (.cells #[.int .i64 0, .slice none 0 0, .slice none 0 0, .slice none 0 0, .slice none 0 0, .slice none 0 0] 37)).setCells w1.heap.size 0 cs) w1.heap.size #[.int .i64 sz,c0,c1,c2,c3,c4]):=by have:=XF.out;rw[show cs.toArray= #[.int .i64 sz,c0,c1,c2,c3,c4] by rw[hcs]] at this;exact this
  have FIN:Hid (∃(X:Nat) (c0 c1 c2 c3 c4:Value) (E:Wd),Value.pointer (some ⟨w1.heap.size,0,none⟩)= .pointer (some ⟨X,0,none⟩)/\Hid (D.like E)/\Hid (WrS (De n) (Dh n) ((w1.alloc (.cells #[.int .i64 0, .slice none 0 0, .slice none 0 0, .slice none 0 0, .slice none 0 0, .slice none 0 0] 37)).setCells w1.heap.size 0 cs) (fun g=>V0.heap.size<=g/\g<X) ⟨sz,c0,c1,c2,c3,c4⟩ E)/\Hid (Ai 37 ((w1.alloc (.cells #[.int .i64 0, .slice none 0 0, .slice none 0 0, .slice none 0 0, .slice none 0 0, .slice none 0 0] 37)).setCells w1.heap.size 0 cs) X #[.int .i64 sz,c0,c1,c2,c3,c4])/\Hid (Below V0.heap.size V0 ((w1.alloc (.cells #[.int .i64 0, .slice none 0 0, .slice none 0 0, .slice none 0 0, .slice none 0 0, .slice none 0 0] 37)).setCells w1.heap.size 0 cs))/\Hid (V0.heap.size<=X/\X<((w1.alloc (.cells #[.int .i64 0, .slice none 0 0, .slice none 0 0, .slice none 0 0, .slice none 0 0, .slice none 0 0] 37)).setCells w1.heap.size 0 cs).heap.size)):=⟨w1.heap.size,c0,c1,c2,c3,c4,E,rfl,HL.out,W3.out,XF2.out,B4.out,S1.out⟩
  clear XF XF2 W3 HL B4 S1 GC B3 hcs VC hl hb hW Y ba B0 M0 M1 M2 ZZ RA HIA HIY CP CZ HYS hyl;go_wp2_with (refine wpList_store_mid rfl 37 _ _ rfl w1.heap.size 0 cs.toArray rfl rfl TH.out HI2.out ONC.out ?_)
  go_meet;exact FIN.out
 case rest=>
  clear CP HIA;obtain⟨X,c0,c1,c2,c3,c4,E,rfl,LK,G0,BX0,BW0,XM⟩:=hcut
  have ISO:=hq (Mg i (min sz D.ns.length))
  have cz:=CZ.out _ (M0.out.step BW0.out)
  obtain⟨cz0,cz1, -⟩:=cz
  by_cases hib:inB i 0 (min sz D.ns.length-1)=true
  ·have hib2:=DX.1 hib
   obtain⟨k,rfl⟩:=Int.eq_ofNat_of_zero_le hib2.1
   have hk:k<D.ns.length:=by omega
   have NA:=hq (QU n sz c0 c1 c2 c3 c4 E _ X V0 _ ⟨G0.out,fun g hg=>⟨hg.1,by have:=hg.2;have:=XM.out.2;omega,by have:=hg.2;omega,fun e=>e⟩,BX0.out,BW0.out,⟨XM.out.1,XM.out.2,fun e=>e,Nat.le_refl _⟩,fun _ e=>e.elim⟩ k (by rw[←LK.out.n.1];exact hk) N DN (fun u hu=>by have:=CN.out u (Below.and B0.out hu);exact this) (RWN.out.below B0.out) HLB.out HS1.out (by rw[←LK.out.n.1];exact HS.out.1) (by rw[←LK.out.c];exact HS.out.2.1) (by rw[←LK.out.l];exact HS.out.2.2))
   have LKN:Hid (∀E',(E.noted k N DN).like E' ->(D.note sz k N DN).like E'):=fun E' h=>by
    unfold Wd.note
    rw[if_pos hib,Int.toNat_natCast]
    exact Wd.like.both ((Wd.noted_lk LK.out (AL.like.refl N) hk).sm) h
   have RY:Hid (∀u,Below V0.heap.size V0 u->u.rangeAt (w.heap.size+1) 0 ys):=fun u hu=>by have:=Ao (M1.out.step hu);rw[List.toList_toArray] at this;exact this
   have RY1:=RY.out _ BW0.out
   rw[show N.val= .agg ys.toArray by rw[HYS.out];rfl] at NA
   clear G0 BX0 CN RWN HLB HS1 HS LK HYS hyl hib2 hk;go_wp2_with fail;refine(ISO.out _).mono ?_
   rintro e w1 ⟨rfl,hw1⟩
   subst hw1;rw[hib]
   go_wp2_with (refine wpList_load_mid rfl 73 _ rfl (w.heap.size+1) 0 rfl ys _ RY1 Tryz.underlying73 rfl HIY.out ?_)
   refine NA.out.mono ?_
   rintro e wr ⟨rfl,F,d0,d2,d4,E2,hlk,hG,hF,hbx,hbw⟩
   have LKE:=hq (LKN.out _ hlk)
   have G:=hq hG
   have FX:Hid (∀g,F g->V0.heap.size<=g/\g<wr.heap.size):=fun g hg=>⟨(hF g hg).1,(hF g hg).2.1⟩
   have BX:=hq hbx
   have BW:=hq hbw
   clear hlk hG hF hbx hbw NA LKN ISO RY RY1 BW0 XM hib cz0 cz1;obtain⟨cs,hcs⟩:∃cs:List Value,cs=[.int .i64 sz,d0,c1,d2,c3,d4]:=⟨_,rfl⟩
   have hcl:cs.length=6:=by rw[hcs];rfl
   have ONC:Hid (cs.toArray.all (·.oneCell')=true):=by rw[hcs];exact(WrS.at (Ej n) (El n) G.out).ones6
   have RGX:Hid (wr.rangeAt X 0 cs):=by rw[hcs];exact Ao BX.out
   have TH:Hid (wr.there (w.heap.size+2) 0 cs.toArray.size):=Ba (M2.out.step BW.out) (show 6=cs.toArray.size by rw[List.size_toArray,hcl])
   have HI1:Hid ((Tryz.prog.info? 37).map (·.size)=some cs.length):=by show _=_;rw[hcl];exact(show(Tryz.prog.info? 37).map (·.size)=some 6 by kernel_rfl)
   have HI2:Hid ((Tryz.prog.info? 37).map (·.size)=some cs.toArray.size):=by show _=_;rw[List.size_toArray,hcl];exact(show(Tryz.prog.info? 37).map (·.size)=some 6 by kernel_rfl)
   have GC:Chg (fun g=>g=w.heap.size+2) wr (wr.setCells (w.heap.size+2) 0 cs):=Chg.setCells (F:=fun b=>b=w.heap.size+2) (g:=w.heap.size+2) (fun _=>rfl) cs 0 wr (Chg.refl _ _)
   have X1:Hid ((wr.setCells (w.heap.size+2) 0 cs).heap[w.heap.size+2]? =some (.cells cs.toArray 37 (0,0))):=A7 (M2.out.step BW.out) cs (by rw[hcl];rfl)
   have FIN:Hid (∃(V:WrV) (E:Wd) (F:Nat->Prop),Value.agg cs.toArray=V.val/\sz=V.sz/\(D.note sz (k:Int) N DN).like E/\WrS (De n) (Dh n) (wr.setCells (w.heap.size+2) 0 cs) F V E/\(∀g,F g->w.heap.size<=g/\g<(wr.setCells (w.heap.size+2) 0 cs).heap.size)/\Below w.heap.size w (wr.setCells (w.heap.size+2) 0 cs)):=by
    have hgs:=GC.size
    exact⟨⟨sz,d0,c1,d2,c3,d4⟩,_,_,by rw[hcs],rfl,LKE.out,G.out.chg (Bo n) (Bp n) GC (fun g hg e=>by have:=(FX.out g hg).1;have:=ZZ.out;omega),fun g hg=>by have:=FX.out g hg;have:=ZZ.out;omega,(Below.and B0.out BW.out).trans (GC.below (fun g _ hg=>by omega) (Nat.le_trans B0.out.size BW.out.size))⟩
   clear GC G LKE BX FX BW hcs M0 M1 M2 B0 ZZ CZ HIY;go_wp2_with (first|(refine wpList_load_mid rfl 37 _ rfl X 0 rfl cs _ RGX.out Tryz.underlying37 rfl HI1.out ?_)|(refine wpList_store_mid rfl 37 _ _ rfl (w.heap.size+2) 0 cs.toArray rfl rfl TH.out HI2.out ONC.out ?_))
   generalize wr.setCells (w.heap.size+2) 0 cs=WF at *
   exact⟨rfl,_,results_cell_row Tryz.results19 _ WF (w.heap.size+2) 37 cs.toArray (0,0) _ rfl X1.out Tryz.underlying37 rfl HI2.out,(by obtain⟨V,E,F,e,e2,r⟩:=FIN.out;first|exact⟨V,E,F,by rw[e],e2,r⟩|exact⟨V,by rw[e],e2,E,F,r⟩|exact⟨V,by rw[e],e2,E,r.1,F,r.2⟩)⟩
  ·have hbf:inB i 0 (min sz D.ns.length-1)=false:=by simpa using hib
   have LKE:Hid ((D.note sz i N DN).like E):=by unfold Wd.note;rw[if_neg hib];exact LK.out
   have G:=G0
   have FX:Hid (∀g,(V0.heap.size<=g/\g<X)->V0.heap.size<=g/\g<wc.heap.size):=fun g hg=>⟨hg.1,by have:=hg.2;have:=XM.out.2;omega⟩
   have BX:=BX0
   have BW:=BW0
   clear CN RWN HLB HS1 HS LK HYS hyl G0 BX0 BW0 hib;go_wp2_with fail;refine(ISO.out _).mono ?_
   rintro e w1 ⟨rfl,hw1⟩
   subst hw1;rw[hbf]
   clear ISO cz0 cz1 hbf;obtain⟨cs,hcs⟩:∃cs:List Value,cs=[.int .i64 sz,c0,c1,c2,c3,c4]:=⟨_,rfl⟩
   have hcl:cs.length=6:=by rw[hcs];rfl
   have ONC:Hid (cs.toArray.all (·.oneCell')=true):=by rw[hcs];exact(WrS.at (Ej n) (El n) G.out).ones6
   have RGX:Hid (w1.rangeAt X 0 cs):=by rw[hcs];exact Ao BX.out
   have TH:Hid (w1.there (w.heap.size+2) 0 cs.toArray.size):=Ba (M2.out.step BW.out) (show 6=cs.toArray.size by rw[List.size_toArray,hcl])
   have HI1:Hid ((Tryz.prog.info? 37).map (·.size)=some cs.length):=by show _=_;rw[hcl];exact(show(Tryz.prog.info? 37).map (·.size)=some 6 by kernel_rfl)
   have HI2:Hid ((Tryz.prog.info? 37).map (·.size)=some cs.toArray.size):=by show _=_;rw[List.size_toArray,hcl];exact(show(Tryz.prog.info? 37).map (·.size)=some 6 by kernel_rfl)
   have GC:Chg (fun g=>g=w.heap.size+2) w1 (w1.setCells (w.heap.size+2) 0 cs):=Chg.setCells (F:=fun b=>b=w.heap.size+2) (g:=w.heap.size+2) (fun _=>rfl) cs 0 w1 (Chg.refl _ _)
   have X1:Hid ((w1.setCells (w.heap.size+2) 0 cs).heap[w.heap.size+2]? =some (.cells cs.toArray 37 (0,0))):=A7 (M2.out.step BW.out) cs (by rw[hcl];rfl)
   have FIN:Hid (∃(V:WrV) (E:Wd) (F:Nat->Prop),Value.agg cs.toArray=V.val/\sz=V.sz/\(D.note sz i N DN).like E/\WrS (De n) (Dh n) (w1.setCells (w.heap.size+2) 0 cs) F V E/\(∀g,F g->w.heap.size<=g/\g<(w1.setCells (w.heap.size+2) 0 cs).heap.size)/\Below w.heap.size w (w1.setCells (w.heap.size+2) 0 cs)):=by
    have hgs:=GC.size
    exact⟨⟨sz,c0,c1,c2,c3,c4⟩,_,_,by rw[hcs],rfl,LKE.out,G.out.chg (Bo n) (Bp n) GC (fun g hg e=>by have:=(FX.out g hg).1;have:=ZZ.out;omega),fun g hg=>by have:=FX.out g hg;have:=ZZ.out;omega,(Below.and B0.out BW.out).trans (GC.below (fun g _ hg=>by omega) (Nat.le_trans B0.out.size BW.out.size))⟩
   clear GC G LKE BX FX BW hcs M0 M1 M2 B0 ZZ CZ HIY;go_wp2_with (first|(refine wpList_load_mid rfl 37 _ rfl X 0 rfl cs _ RGX.out Tryz.underlying37 rfl HI1.out ?_)|(refine wpList_store_mid rfl 37 _ _ rfl (w.heap.size+2) 0 cs.toArray rfl rfl TH.out HI2.out ONC.out ?_))
   generalize w1.setCells (w.heap.size+2) 0 cs=WF at *
   exact⟨rfl,_,results_cell_row Tryz.results19 _ WF (w.heap.size+2) 37 cs.toArray (0,0) _ rfl X1.out Tryz.underlying37 rfl HI2.out,(by obtain⟨V,E,F,e,e2,r⟩:=FIN.out;first|exact⟨V,E,F,by rw[e],e2,r⟩|exact⟨V,by rw[e],e2,E,F,r⟩|exact⟨V,by rw[e],e2,E,r.1,F,r.2⟩)⟩
end
end Go.Proofs.YtkcaelfkcepdkaaGreat
