/-
  The contract of the program's way to join adds.
  The contract of the program's Shrink.
-/
import Derived.Test.YtadmomgdacfgpaaGreatOfInjd35
import Derived.Test.YtadmomgdacfgpaaGreatOfInjd22
namespace Go.Proofs.YtadmomgdacfgpaaGreat
set_option maxRecDepth 100000
set_option maxHeartbeats 8000000
section
open Go.RowKit

structure JSt (w:World) (l:ML) (k:Nat) (A:ML) (P:PL) (F:Nat->Prop) (out:Value) (wr:World):Prop where
 len:A.length<=k
 fold:((l.drop k).foldl Dp (A,P)).1=JU l
 srt:Dz wr w.heap.size F P
 ge:∀g,F g->w.heap.size<=g
 ap:∀g,F g->out.ownBlock≠some g
 mp:Cy P
 inv:KQ A P
 ok:∀a∈A,okM a=true
 own:wr.ownsRow w.heap.size 107 1 out A.length (A.map Cj)
 bel:Below w.heap.size w wr

theorem JSt.app {w:World} {l:ML} {k:Nat} {A:ML} {P P' :PL} {F F1:Nat->Prop} {out:Value} {wr W:World} (h:JSt w l k A P F out wr) (hk:k<l.length)
  (hm:okM (mO l k,mK l k,mV l k)=true) (hs:Dz W w.heap.size F1 P') (hge:∀g,F1 g->w.heap.size<=g) (hap:∀g,F1 g->out.ownBlock≠some g) (mp:Cy P') (inv:KQ (A++[(mO l k,mK l k,mV l k)]) P')
  (stp:Dp (A,P) (mO l k,mK l k,mV l k)=(A++[(mO l k,mK l k,mV l k)],P')) (bW:Below w.heap.size w W)
  {v' :Value} {w' :World} (ho:w'.ownsRow w.heap.size 107 1 v' (A.length+1) (A.map Cj++[Cj (mO l k,mK l k,mV l k)])) (hc:Chg (fun g=>out.ownBlock=some g) W w') (hb:Below w.heap.size W w') :
  ∃G,JSt w l (k+1) (A++[(mO l k,mK l k,mV l k)]) P' G v' w' :=by
 obtain⟨G,g1,g2,g3⟩:=Dz.pack (Srt.chg hs hc (fun g hF e=>hap g hF e)) hge ho
 have hf:=h.fold
 rw[Lo l k hk,stp] at hf
 exact⟨G,by have:=h.len;simp;omega,hf,g1,g2,g3,mp,inv,Vt h.ok hm,by rw[List.length_append,List.map_append];exact ho,bW.trans hb⟩

theorem JSt.join {w:World} {l:ML} {k:Nat} {A:ML} {P:PL} {F:Nat->Prop} {out:Value} {wr W:World} (h:JSt w l k A P F out wr) (hk:k<l.length)
  {n:Nat} (hn:n<A.length) {kk vv:Int} (hm:(mO l k,mK l k,mV l k)=(3,kk,vv)) (hkn:mK A n=kk) (hkk:0<=kk/\kk<=999) (stp:Dp (A,P) (3,kk,vv)=(A.set n (1,kk,A0 (mV A n+vv)),P)) (bW:Below wr.heap.size wr W)
  (g:Nat) (hg:out.ownBlock=some g) (hgw:w.heap.size<=g)
  (ho:(W.setCell ⟨g,n,none⟩ (Cj (1,kk,A0 (mV A n+vv)))).ownsRow w.heap.size 107 1 out A.length ((A.map Cj).set n (Cj (1,kk,A0 (mV A n+vv))))) :
  JSt w l (k+1) (A.set n (1,kk,A0 (mV A n+vv))) P F out (W.setCell ⟨g,n,none⟩ (Cj (1,kk,A0 (mV A n+vv)))):=by
 have hf:=h.fold
 rw[Lo l k hk,hm,stp] at hf
 have hc:Chg (fun g' =>g' =g) W (W.setCell ⟨g,n,none⟩ (Cj (1,kk,A0 (mV A n+vv)))):=Chg.setAt (F:=fun g' =>g' =g) (Chg.refl _ _) _ _ rfl _
 refine⟨by have:=h.len;simp;omega,hf,Srt.chg (h.srt.below bW) hc (fun g' hF e=>h.ap g' hF (by rw[e];exact hg)),h.ge,h.ap,h.mp,h.inv.set hn _ _ hkn,VD h.ok (R9 _ _ hkk (Jw _)) n, ?_, ?_⟩
 ·rw[List.length_set,List.map_set];exact ho
 ·exact(Below.and h.bel bW).trans (hc.below (fun g' _ e=>by omega) (Nat.le_trans h.bel.size bW.size))

theorem Tt (a b c:Int) (w:World):(Instr.field 35 (.agg #[.int .i64 a, .int .i64 b, .int .i64 c]) 2).run Tryz.prog w= .ok (.int .i64 c) w:=by kernel_rfl

theorem NM (vm:Value) (l:ML) (w:World) (hm:Row w vm l.length (l.map Cj)) (hok:∀m∈l,okM m=true) (hn:l.length<=2097152) :
  Calls Tryz.prog 115 #[vm] w fun e w' =>∃v',e= .returned v' ∧w'.ownsRow w.heap.size 107 1 v' (JU l).length ((JU l).map Cj)/\(∀m∈JU l,okM m=true)/\(JU l).length<=l.length/\Below w.heap.size w w' :=by
 obtain⟨i0,hi,hz0,hz1,hz2⟩:=info_parts Tryz.info107
 obtain⟨a,b,off,cap,rfl,hcap,hmax,ha,hc⟩:=hm.changes
 unfold maxLen at hmax;have OK:Hid (∀m∈l,okM m=true):=hok
 have HC:Hid _:=hc
 have b0:Below w.heap.size w (w.alloc (.cells #[.slice none 0 0, .slice none 0 0] 102)):=(Below.refl _ _).alloc (Nat.le_refl _) _
 have START:Hid (JSt w l 0 [] [] (fun g=>g=w.heap.size) (.slice none 0 0) (w.alloc (.cells #[.slice none 0 0, .slice none 0 0] 102))):=
  ⟨Nat.le_refl _,rfl,⟨.slice none 0 0, .slice none 0 0,heap_alloc_new _ _,World.ownsRow_nil _ _ _ _,World.ownsRow_nil _ _ _ _,fun g hg=>by simp[Value.ownBlock] at hg,rfl,fun g hg=>by simp[Value.ownBlock] at hg,fun g hg=>by simp[Value.ownBlock] at hg⟩,
   fun g hg=>by omega,fun g _ hg=>by simp[Value.ownBlock] at hg,⟨List.Pairwise.nil,fun p hp=>by simp at hp⟩,fun x hx=>by simp[Aw] at hx,fun a ha=>by simp at ha,World.ownsRow_nil _ _ _ _,b0⟩
 clear hm hok b0 hc;go_enter Tryz.func115,Tryz.ntmps115
 go_wp2;go_loopw [4,14] (fun out i wr=>∃(k:Nat) (A:ML) (P:PL) (F:Nat->Prop),k<=l.length/\i= .int .i64 k/\Hid (JSt w l k A P F out wr))
  (fun _ i _=>l.length-(intOf i).toNat)
 case atStart=>exact⟨0,[],[],_,Nat.zero_le _,rfl,START⟩
 case round=>
  obtain⟨k,A,P,F,hkl,rfl,J⟩:=hrel
  clear START;have hAl:=J.out.len
  have hPl:=Fa J.out.mp
  obtain⟨la,lc,hout⟩:=Bk J.out.own
  subst hout;have hlc:A.length<=lc/\lc<=maxLen:=by
   obtain⟨_,⟨e,e2⟩|⟨g,cap',cur,e,_,_,h1,h2,_⟩⟩:=J.out.own
   ·simp at e;unfold maxLen;omega
   ·simp at e;rw[e.2];exact⟨h1,h2⟩
  unfold maxLen at hlc;obtain⟨hlc1,hlc2⟩:=hlc
  by_cases hlt:k<l.length
  ·have hal:=ha (by omega)
   subst hal;have d0:=(J.out.bel.cell (by exact Aa (HC.out k hlt))).trans (HC.out k hlt)
   have okm:=Po OK.out hlt
   obtain⟨ho4,hk9,hv9⟩:=Cw okm
   simp only at ho4 hk9 hv9
   have OKM:Hid _:=okm
   have APP:Hid _:= @JSt.app w l k A P
   have JOI:Hid _:= @JSt.join w l k A P F
   have hbs:=J.out.bel.size
   have HR:Hid _:=Bb (n:=A.length) (bytes:=16) (by omega) (by decide)
   clear okm;generalize mO l k=x0 at *
   generalize mK l k=x1 at *
   generalize mV l k=x2 at *
   have plain:∀W,Below wr.heap.size wr W->x0≠1->¬(x0=3/\(Aw P x1).2=true)->∀v' w',w'.ownsRow w.heap.size 107 1 v' (A.length+1) (A.map Cj++[Cj (x0,x1,x2)])->Chg (fun g=>(Value.slice la A.length lc).ownBlock=some g) W w' ->Below w.heap.size W w' ->∃G,JSt w l (k+1) (A++[(x0,x1,x2)]) P G v' w':=
    fun W hW h1 h3 v' w' ho hcc hb=>APP.out J.out hlt OKM.out (J.out.srt.below hW) J.out.ge J.out.ap J.out.mp (J.out.inv.app _) (Rj h1 h3) (Below.and J.out.bel hW) ho hcc hb
   have PLAIN:Hid _:=plain
   clear plain;rcases(show x0=1∨x0=2∨x0=3∨x0=4 from by omega) with rfl|rfl|rfl|rfl
   ·rw[show Cj (1,x1,x2)= .iface 142 (.agg #[.int .i64 x1, .int .i64 x2]) from rfl] at d0
    have t99:=LX x1 x2
    have ba:Below wr.heap.size wr (wr.alloc (.cells #[.int .i64 x1, .int .i64 x2] 142)):=(Below.refl _ _).alloc (Nat.le_refl _) _
    have SA:Hid _:=And.intro (J.out.srt.below ba) ba
    clear ba;go_wp2_with fail;refine(Hv w.heap.size F P _ _ _ SA.out.1 J.out.mp.1 (by omega)).mono ?_
    rintro e w1 ⟨rfl,F',h1,h2,h3⟩
    have O1:w1.ownsRow w.heap.size 107 1 (.slice la A.length lc) A.length (A.map Cj):=Az (AF J.out.own SA.out.2) h2 (fun g hg hF=>J.out.ap g hF hg)
    have ge1:∀g,F' g->w.heap.size<=g:=fun g hg=>(h3 g hg).elim (J.out.ge g) (fun hh=>by have:=SA.out.2.size;omega)
    have ap1:∀g,F' g->(Value.slice la A.length lc).ownBlock≠some g:=fun g hg e=>(h3 g hg).elim (fun hh=>J.out.ap g hh e) (fun hh=>by have:=(J.out.own.lt g e).2;have:=SA.out.2.size;omega)
    have B1:Below w.heap.size w w1:=(Below.and J.out.bel SA.out.2).trans (h2.below (fun g _ hg=>J.out.ge g hg) (by have:=SA.out.2.size;omega))
    have mp1:Cy (BH P x1 A.length):=Hy J.out.mp hk9 (by omega)
    have FINF:Hid _:=fun v' w' ho hcc hb=>APP.out J.out hlt OKM.out h1 ge1 ap1 mp1 (J.out.inv.put J.out.mp.1 x1 x2) (SM A P x1 x2) B1 (v' :=v') (w' :=w') ho hcc hb
    have hbs1:w.heap.size<=w1.heap.size:=B1.size
    have H1:Hid (∀u∈[Value.iface 142 (.agg #[.int .i64 x1, .int .i64 x2])],u.oneCell' =true):=fun u hu=>by simp at hu;subst hu;rfl
    clear h1 h2 h3 ge1 ap1 B1 mp1 SA;go_wp2_with (at_builtin;refine Bm w1 rfl _ _ 104 rfl w.heap.size 107 i0 _ 1 16 Tryz.underlying104 hi hz0 hz1 hz2 rfl (by decide) (.slice la A.length lc) _ _ rfl O1 [.iface 142 (.agg #[.int .i64 x1, .int .i64 x2])] rfl rfl H1.out HR.out.1 HR.out.2 hbs1 ?_)
    intro v8 w8 ho8 hc8 hb8;obtain⟨G,J8⟩:=FINF.out v8 w8 ho8 hc8 hb8
    have J9:Hid _:=J8
    clear ho8 hc8 hb8 O1 J8;go_wp2;go_roundw
    case rel=>exact⟨k+1,_,_,G,by omega,by go_num,J9⟩
    case measure=>simp[intOf];omega
   ·rw[show Cj (2,x1,x2)= .iface 144 (.agg #[.int .i64 x1]) from rfl] at d0
    have t99:=Jt x1
    have t101:=QZ x1
    have O1:=J.out.own
    have H1:Hid (∀u∈[Value.iface 144 (.agg #[.int .i64 x1])],u.oneCell' =true):=fun u hu=>by simp at hu;subst hu;rfl
    go_wp2_with (at_builtin;refine Bm wr rfl _ _ 104 rfl w.heap.size 107 i0 _ 1 16 Tryz.underlying104 hi hz0 hz1 hz2 rfl (by decide) (.slice la A.length lc) _ _ rfl O1 [.iface 144 (.agg #[.int .i64 x1])] rfl rfl H1.out HR.out.1 HR.out.2 hbs ?_)
    intro v8 w8 ho8 hc8 hb8;obtain⟨G,J8⟩:=PLAIN.out wr (Below.refl _ _) (by omega) (by omega) v8 w8 ho8 hc8 hb8
    have J9:Hid _:=J8
    clear ho8 hc8 hb8 O1 J8;go_wp2;go_roundw
    case rel=>exact⟨k+1,_,_,G,by omega,by go_num,J9⟩
    case measure=>simp[intOf];omega
   ·rw[show Cj (3,x1,x2)= .iface 146 (.agg #[.int .i64 x1, .int .i64 x2]) from rfl] at d0
    have t99:=Js x1 x2
    have t101:=Lz x1 x2
    have ba:Below wr.heap.size wr (wr.alloc (.cells #[.int .i64 x1, .int .i64 x2] 146)):=(Below.refl _ _).alloc (Nat.le_refl _) _
    have SA:Hid _:=And.intro (J.out.srt.below ba) ba
    have MA:Hid _:=heap_alloc_new wr (.cells #[.int .i64 x1, .int .i64 x2] 146)
    clear ba;go_wp2_with fail;refine(MR w.heap.size F P _ _ SA.out.1 J.out.mp.1 (by omega)).mono ?_
    rintro e w1 ⟨rfl,b1⟩
    have M1:Hid (w1.heap[wr.heap.size]? =some (.cells #[.int .i64 x1, .int .i64 x2] 146 (0,0))):=by
     show _=_
     rw[b1.block _ (by simp)];exact MA.out
    have B1:Hid (Below wr.heap.size wr w1):=Below.and SA.out.2 b1
    clear b1 SA MA t99 t101 d0
    cases hfd:(Aw P x1).2
    ·have O1:=AF J.out.own B1.out
     have hbs1:w.heap.size<=w1.heap.size:=Nat.le_trans hbs B1.out.size
     have H1:Hid (∀u∈[Value.iface 146 (.agg #[.int .i64 x1, .int .i64 x2])],u.oneCell' =true):=fun u hu=>by simp at hu;subst hu;rfl
     have NF:Hid (¬((3:Int)=3/\(Aw P x1).2=true)):=by rw[hfd];intro h;cases h.2
     go_wp2_with (at_builtin;refine Bm w1 rfl _ _ 104 rfl w.heap.size 107 i0 _ 1 16 Tryz.underlying104 hi hz0 hz1 hz2 rfl (by decide) (.slice la A.length lc) _ _ rfl O1 [.iface 146 (.agg #[.int .i64 x1, .int .i64 x2])] rfl rfl H1.out HR.out.1 HR.out.2 hbs1 ?_)
     intro v8 w8 ho8 hc8 hb8;obtain⟨G,J8⟩:=PLAIN.out w1 B1.out (by decide) NF.out v8 w8 ho8 hc8 hb8
     have J9:Hid _:=J8
     clear ho8 hc8 hb8 O1 J8;go_wp2;go_roundw
     case rel=>exact⟨k+1,_,_,G,by omega,by go_num,J9⟩
     case measure=>simp[intOf];omega
    ·obtain⟨n,hgn,hnl,hon,hkn⟩:=J.out.inv x1 hfd
     rw[hgn]
     have O1:=AF J.out.own B1.out
     have hex:∃g,la=some ⟨g,0,none⟩:=by
      obtain⟨_,⟨_,e⟩|⟨g,cap',cur,e,_⟩⟩:=J.out.own
      ·omega
      ·simp at e;exact⟨g,e.1⟩
     obtain⟨g,rfl⟩:=hex
     have cn:w1.cell? ⟨g,n,none⟩=some (.iface 142 (.agg #[.int .i64 x1, .int .i64 (mV A n)])):=by
      rw[O1.cellAt n (by omega),List.getElem?_map,List.getElem?_eq_getElem hnl,D7 A n hnl,hon,hkn];rfl
     have hVn:=(Cw (J.out.ok _ (QE hnl))).2.2
     simp only at hVn
     have e1:∀u:Bel w1,u.now.cell? ⟨g,n,none⟩=some (.iface 142 (.agg #[.int .i64 x1, .int .i64 (mV A n)])):=fun u=>(u.bel.cell (by exact Aa cn)).trans cn
     have M10:w1.cell? ⟨wr.heap.size,0,none⟩=some (.int .i64 x1):=by rw[Ae M1.out];rfl
     have M11:w1.cell? ⟨wr.heap.size,1,none⟩=some (.int .i64 x2):=by rw[Ae M1.out];rfl
     have e2:∀u:Bel w1,u.now.cell? ⟨wr.heap.size,1,none⟩=some (.int .i64 x2):=fun u=>(u.bel.cell (by exact Aa M11)).trans M11
     have e3:∀u:Bel w1,u.now.cell? ⟨wr.heap.size,0,none⟩=some (.int .i64 x1):=fun u=>(u.bel.cell (by exact Aa M10)).trans M10
     have hmm:=JW x1 (mV A n)
     have hfl:=Tt 1 x1 (mV A n)
     have hem:=Nd (.agg #[.int .i64 x1, .int .i64 (mV A n)])
     have hnl2:(n:Int)<A.length:=by omega
     have OO:Hid _:=O1
     clear O1 cn M10 M11;go_wp2_with fail;have _some:=Bel.some w1
     refine Ds (w0:=w1) (by kernel_rfl) (by kernel_rfl) (Below.refl _ _) ?_
     repeat (go_big_quiet_step (first|(go_at_call 159;exact Calls.bel (U4 x1 (mV A n) _))|(go_at_call 106;exact Calls.bel ((Hf _ _ _ hVn.1 hVn.2 hv9.1 hv9.2).mono (fun _ _ h=>⟨h.1,by rw[h.2];exact Below.refl _ _⟩)))))
     refine wpQuiet_nil ?_
     rintro _ ⟨u,rfl⟩
     have U0:=e1 u
     have U1:=e3 u
     have OU:=AF OO.out u.bel
     have FU:=OU.frozenAt n
     have BU:Hid (Below wr.heap.size wr u.now):=Below.and B1.out u.bel
     have st:=(OU.stored n (Cj (1,x1,A0 (mV A n+x2)))).1
     have JN:=JOI.out J.out hlt hnl rfl hkn hk9 (Sg x2 hfd hgn) BU.out g rfl (J.out.own.lt g rfl).1 st
     have J9:Hid _:=JN
     rw[show Cj (1,x1,A0 (mV A n+x2))= .iface 142 (.agg #[.int .i64 x1, .int .i64 (A0 (mV A n+x2))]) from rfl] at J9
     clear JN st OU e1 e2 e3;go_wp2;go_roundw
     case rel=>exact⟨k+1,_,_,F,by omega,by go_num,J9⟩
     case measure=>simp[intOf];omega
   ·rw[show Cj (4,x1,x2)= .iface 149 (.agg #[.int .i64 x1]) from rfl] at d0
    have t99:=Jc x1
    have t101:=LI x1
    have O1:=J.out.own
    have H1:Hid (∀u∈[Value.iface 149 (.agg #[.int .i64 x1])],u.oneCell' =true):=fun u hu=>by simp at hu;subst hu;rfl
    go_wp2_with (at_builtin;refine Bm wr rfl _ _ 104 rfl w.heap.size 107 i0 _ 1 16 Tryz.underlying104 hi hz0 hz1 hz2 rfl (by decide) (.slice la A.length lc) _ _ rfl O1 [.iface 149 (.agg #[.int .i64 x1])] rfl rfl H1.out HR.out.1 HR.out.2 hbs ?_)
    intro v8 w8 ho8 hc8 hb8;obtain⟨G,J8⟩:=PLAIN.out wr (Below.refl _ _) (by omega) (by omega) v8 w8 ho8 hc8 hb8
    have J9:Hid _:=J8
    clear ho8 hc8 hb8 O1 J8;go_wp2;go_roundw
    case rel=>exact⟨k+1,_,_,G,by omega,by go_num,J9⟩
    case measure=>simp[intOf];omega
  ·have hkk:k=l.length:=by omega
   subst hkk;have E:A=JU l:=by have:=J.out.fold;rw[List.drop_length] at this;exact this
   subst E;go_wp2;go_ret;exact⟨_,rfl,J.out.own,J.out.ok,J.out.len,J.out.bel⟩
end
section
open Go.RowKit

theorem L8 (vm:Value) (ms:ML) (w:World) (hm:Row w vm ms.length (Af ms)) (hn:ms.length<=2097152) :
  Calls Tryz.prog 99 #[vm] w fun e w' =>∃v',e= .returned v' ∧w'.ownsRow w.heap.size 35 3 v' (At ms).length (Af (At ms))/\Below w.heap.size w w' :=by
 obtain⟨i0,hi,hz0,hz1,hz2⟩:=info_parts Tryz.info35
 have RM:Hid (Row w vm ms.length (Af ms)):=hm
 have h1:=G5 ms
 have h2:=Ky (BG ms)
 have h3:=Ra (wgF (BG ms))
 have K1:Hid (∀m∈BG ms,okM m=true):=fun m hm=>(List.mem_filter.1 hm).2
 have K2:Hid (∀m∈wgF (BG ms),okM m=true):=fun m hm=>K1.out m (List.mem_filter.1 hm).1
 have K3:Hid (∀m∈woF (wgF (BG ms)),okM m=true):=fun m hm=>K2.out m (VQ _ m hm)
 have E:Hid _:=Ti ms
 clear hm;go_enter Tryz.func99,Tryz.ntmps99
 go_wp2_with fail;refine(H4 vm ms _ RM.out (by omega)).mono ?_
 rintro e w1 ⟨v1,rfl,o1,b1⟩
 have R1:=Row.of_owns o1
 have B1:Hid _:=b1
 clear o1 b1;go_wp2_with fail;refine(Kd v1 (BG ms) _ R1 K1.out (by omega)).mono ?_
 rintro e w2 ⟨v2,rfl,o2,b2⟩
 have R2:=Row.of_owns o2
 have B2:Hid _:=Below.and B1.out b2
 clear o2 b2 R1 B1;go_wp2_with fail;refine(G7 v2 (wgF (BG ms)) _ R2 K2.out (by omega)).mono ?_
 rintro e w3 ⟨v3,rfl,o3,b3⟩
 have R3:=Row.of_owns o3
 have B3:Hid _:=Below.and B2.out b3
 clear o3 b3 R2 B2;go_wp2_with fail;refine(NM v3 (woF (wgF (BG ms))) _ R3 K3.out (by omega)).mono ?_
 rintro e w4 ⟨v4,rfl,o4,k4,l4,b4⟩
 rw[E.out] at o4 k4 l4
 obtain⟨a,b,off,cap,rfl,hcap,hmax,ha,hc⟩:=(Row.of_owns o4).changes
 unfold maxLen at hmax;have K4:Hid (∀m∈At ms,okM m=true):=k4
 have HC:Hid _:=hc
 have B4:Hid (Below w.heap.size w w4):=Below.and B3.out b4
 clear o4 k4 b4 R3 B3 hc K1 K2 K3;generalize hL:At ms=L at *
 have HL:Hid _:=hL
 clear E hL;go_wp2;go_loopw [4,14] (fun out i wr=>∃k:Nat,k<=L.length/\i= .int .i64 k/\Hid (wr.ownsRow w4.heap.size 35 3 out (L.take k).length (Af (L.take k)))/\Hid (Below w4.heap.size w4 wr))
  (fun _ i _=>L.length-(intOf i).toNat)
 case atStart=>exact⟨0,Nat.zero_le _,rfl,World.ownsRow_nil _ _ _ _,Below.refl _ _⟩
 case round=>
  obtain⟨k,hkl,rfl,hown,hb⟩:=hrel
  by_cases hlt:k<L.length
  ·have hal:=ha (by omega)
   subst hal;have d0:=(hb.out.cell (by exact Aa (HC.out k hlt))).trans (HC.out k hlt)
   obtain⟨t,x,f,g,CH⟩:=Of (Po K4.out hlt)
   have CHH:Hid _:=CH
   have hmm:=CH.hm
   have hem:=CH.em
   rw[CH.enc] at d0
   have DS:Hid _:=DA L k hlt
   have htl:(L.take k).length<=k:=List.length_take_le _ _
   generalize L.take k=A at *
   clear CH;go_wp2_with fail;refine(CHH.out.cm _).mono ?_
   rintro e w5 ⟨rfl,b5⟩
   have O5:w5.ownsRow w4.heap.size 35 3 u4 A.length (Af A):=AF hown.out b5
   have B5:Hid (Below w4.heap.size w4 w5):=Below.and hb.out b5
   simp only
   generalize mO L k=x0 at *
   generalize mK L k=x1 at *
   generalize mV L k=x2 at *
   have HR:Hid _:=Bb (n:=A.length) (bytes:=24) (by omega) (by decide)
   have H1:Hid (∀u∈[Value.int .i64 x0, .int .i64 x1, .int .i64 x2],u.oneCell' =true):=fun u hu=>by simp at hu;rcases hu with rfl|rfl|rfl<;>rfl
   have hbs:=B5.out.size
   clear b5 hown;go_wp2_with (at_builtin;refine Bm w5 rfl _ _ 24 rfl w4.heap.size 35 i0 _ 3 24 Tryz.underlying24 hi hz0 hz1 hz2 rfl (by decide) u4 _ _ rfl O5 [.int .i64 x0, .int .i64 x1, .int .i64 x2] rfl rfl H1.out HR.out.1 HR.out.2 hbs ?_)
   intro v6 w6 ho6 _ hb6;have FIN:Hid _:=And.intro ho6 (B5.out.trans hb6)
   clear ho6 hb6 O5;go_wp2;go_roundw
   case rel=>exact⟨k+1,by omega,by go_num,by rw[DS.out,BI,List.length_append];exact FIN.out.1,FIN.out.2⟩
   case measure=>simp[intOf];omega
  ·have hkk:k=L.length:=by omega
   subst hkk;rw[List.take_of_length_le (Nat.le_refl _)] at hown
   have FIN:Hid _:=And.intro (AK hown.out B4.out.size) (Below.and B4.out hb.out)
   clear hown;go_wp2;go_ret;rw[HL.out]
   exact⟨_,rfl,FIN.out.1,FIN.out.2⟩
end
end Go.Proofs.YtadmomgdacfgpaaGreat
