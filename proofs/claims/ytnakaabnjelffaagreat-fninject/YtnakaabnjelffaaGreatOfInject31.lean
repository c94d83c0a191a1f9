/-
  The program's forksOf: one tree over the kids, or several of two each where they are too many for one.
-/
import Derived.Test.YtnakaabnjelffaaGreatOfInject30
namespace Go.Proofs.YtnakaabnjelffaaGreat
set_option maxRecDepth 100000
set_option maxHeartbeats 8000000
section
open Go.RowKit

theorem Aj.subF {w:World} {F:Nat->Prop} {b o q n size:Nat} {xs:List Value} (h:Aj w F (.slice (some ⟨b,o,none⟩) n q) n xs) (i m:Nat) (hi:i+m<=n) (hm:0<m):Aj w F (.slice (some ⟨b,o+i*size,none⟩) m (q-i)) m ((xs.drop (i*size)).take (m*size)):=by
 obtain⟨a,b',off,cap,h1,h2,h3,h4,h5,h6,h7⟩:=h
 simp only[Value.slice.injEq,true_and] at h1
 obtain⟨rfl,rfl⟩:=h1
 obtain⟨e,hF⟩:=h4 (by omega)
 simp only[Option.some.injEq,Addr.mk.injEq,and_true] at e
 obtain⟨rfl,rfl⟩:=e
 refine⟨_,b,o+i*size,_,rfl,by omega,by omega,fun _=>⟨rfl,hF⟩,fun j u hj=> ?_,fun h=>by simp at h,fun h=>by omega⟩
 rw[Rl] at hj
 split at hj
 ·rw[show o+i*size+j=o+(i*size+j) by omega]
  exact h5 _ _ hj
 ·cases hj
theorem Og {w:World} {base e size n:Nat} {v:Value} {xs:List Value} (h:w.ownsRow base e size v n xs) (hn:0<n):∃g q,v= .slice (some ⟨g,0,none⟩) n q/\n<=q/\q<=maxLen:=by
 obtain⟨_,h|⟨g,cap,cur,rfl,_,_,h1,h2,_⟩⟩:=h
 ·omega
 ·exact⟨g,cap,rfl,h1,h2⟩
theorem Lk {n i k:Nat} (h:(AB n 0).drop k=AB n i) (hi:i<n):k<(AB n 0).length/\(AB n 0)[k]? =some (i,AM (n-i))/\(AB n 0).drop (k+1)=AB n (i+AM (n-i)):=by
 rw[Km hi] at h
 have hk:k<(AB n 0).length:=by
  have:=congrArg List.length h
  simp only[List.length_drop,List.length_cons] at this
  omega
 rw[List.drop_eq_getElem_cons hk] at h
 simp only[List.cons.injEq] at h
 exact⟨hk,by rw[List.getElem?_eq_getElem hk,h.1],h.2⟩
theorem Lj {n i k:Nat} (h:(AB n 0).drop k=AB n i) (hi:¬i<n):(AB n 0).length<=k:=by
 rw[Jc hi] at h
 simpa using h

theorem Qc (d:Nat) (F:Nat->Prop) (vt vc:Value) (m:TM) (w:World) (ht:Ad d w F vt m.1) (hc:Aj w F vc m.2.length (Ab m.2)) (hm:m.2.length+1=m.1.length) (h5:5<=m.1.length) (hn:m.1.length<=1048576) :
  Calls Tryz.prog 52 #[.agg #[vt,vc]] w fun e w' =>∃v1 v2,e= .returned (.agg #[v1,v2])/\Ad (d+1) w' (fun b=>F b∨w.heap.size<=b) v1 (Co m).1/\Aj w' (fun b=>F b∨w.heap.size<=b) v2 (Co m).2.length (Ab (Co m).2)/\Below w.heap.size w w' :=by
 obtain⟨i0,hi0,hz0,hz1,hz2⟩:=info_parts Tryz.info29
 obtain⟨j0,hj0',hy0,hy1,hy2⟩:=info_parts Tryz.info3
 obtain⟨xs0,hxl,hrow,hel⟩:=ht
 have HE:=hid (fun i (hi:i<xs0.length)=>(hel i hi).lt)
 have HT:=hid (hrow.lt (Ij _).2)
 have HC:=hid (hc.lt (Ch _).2)
 obtain⟨av,b1,off1,c1,hvt,hcap1,hmax1,ha1,_⟩:=hrow.row.trees
 obtain⟨bv,b2,off2,c2,hvc,hcap2,hmax2,ha2,ck⟩:=hc.row.ints
 subst hvt;subst hvc;have hav:=ha1 (by omega)
 have hbv:=ha2 (by omega)
 subst hav;subst hbv;have hmax1' :=hmax1
 unfold maxLen at hmax1 hmax2;clear hrow hc hel ha1 ha2;have TA:=hid (fun j (hj:j<m.1.length)=>Wg hj)
 have CA:=hid (fun j (hj:j<m.1.length)=>WC hj)
 have TE:=hid (fun j (hj:¬j<m.1.length)=>Tz hj)
 have CE:=hid (fun j (hj:¬j<m.1.length)=>Un hj)
 have MN:=hid (Br)
 have M3:Hid (AM 3=3):=rfl
 have CK:=hid (fun (j:Nat) (w1:World) (hb:Below w.heap.size w w1) (hj:j<m.2.length)=>Ac hb (Aa (ck j hj)) (ck j hj))
 have NEW:Hid (∀(j M:Nat) (w1:World),Below w.heap.size w w1->2<=M->j+M<=m.1.length->AM (m.1.length-j)=M->Aq (d+1) w1 (fun g=>F g/\g<w.heap.size) ⟨false, .slice none 0 0, .slice (some ⟨b2,off2+j,none⟩) (M-1) (c2-j), .slice (some ⟨b1,off1+j*5,none⟩) M (c1-j), .slice none 0 0⟩ (FJ m j)):=fun j M w1 hb hM hj he=>by
  unfold FJ;rw[he]
  refine Aq.mk rfl (Aj.nil _ _) ?_ (Aj.nil _ _) ?_
  ·have:=(HC.out.below hb).subF (size:=1) j (M-1) (by omega) (by omega)
   rw[Hi,Jm] at this
   simp only[Nat.mul_one] at this
   show Aj w1 _ _ ((m.2.drop j).take (M-1)).length _
   rw[show((m.2.drop j).take (M-1)).length=M-1 by simp;omega]
   exact this
  ·have:=(HT.out.below hb).subF (size:=5) j M (by omega) (by omega)
   rw[Gn,Ht] at this
   refine⟨(xs0.drop j).take M,by simp;omega, ?_,fun i hi=> ?_⟩
   ·rw[show((xs0.drop j).take M).length=M by simp;omega]
    exact this
   ·have hi' :i<M:=by simp at hi;omega
    rw[QD hi',Ry hi']
    exact(HE.out (j+i) (by omega)).below hb
 have TW:=hid (fun w0=>Ri b1 off1 m.1.length c1 w0 (by omega) (by omega) hmax1' hn)
 have PD:Hid (∀i k,(AB m.1.length 0).drop k=AB m.1.length i->i<m.1.length->k<(AB m.1.length 0).length/\(AB m.1.length 0)[k]? =some (i,AM (m.1.length-i))/\(AB m.1.length 0).drop (k+1)=AB m.1.length (i+AM (m.1.length-i))):=fun i k=>Lk
 have PE:Hid (∀i k,(AB m.1.length 0).drop k=AB m.1.length i->¬i<m.1.length->(AB m.1.length 0).length<=k):=fun i k=>Lj
 have PN:(AB m.1.length 0).length<=1048576:=Nat.le_trans (IH _ _) (by omega)
 have RL:Hid (∀g,g=w.heap.size+2->¬((F g/\g<w.heap.size)∨w.heap.size+2+1<=g)):=fun g hg k=>by omega
 show Calls Tryz.prog 52 #[.agg #[.slice (some ⟨b1,off1,none⟩) xs0.length c1, .slice (some ⟨b2,off2,none⟩) m.2.length c2]] w fun e w' =>∃v1 v2,e= .returned (.agg #[v1,v2])/\Ad (d+1) w' (fun b=>F b∨w.heap.size<=b) v1 (pkT m 0)/\Aj w' (fun b=>F b∨w.heap.size<=b) v2 (pkC m 0).length (Ab (pkC m 0))/\Below w.heap.size w w'
 rw[hxl]
 rw[hxl] at hcap1
 clear HT HC ck HE;generalize hT0:pkT m 0=T0 at *
 generalize hC0:pkC m 0=C0 at *
 have T00:Hid (pkT m 0=T0):=hT0
 have C00:=hid (hC0)
 clear hT0 hC0 hxl;generalize hn1:m.1.length=n1 at *
 generalize hn2:m.2.length=n2 at *
 clear hn1 hn2;have hgt:(4:Int)<(n1:Int):=by omega
 have hng:¬((n1:Int)<=4):=by omega
 go_enter Tryz.func52,Tryz.ntmps52
 go_wp2_with fail;refine Calls.mono (TW.out _) ?_
 rintro e w1 ⟨vp,rfl,op,bp⟩
 have hL0:0<(AB n1 0).length:=(PD.out 0 0 rfl (by omega)).1
 obtain⟨gp,qp,hvp,hLq,hqm⟩:=Og op hL0
 subst hvp;have X0:Ai w1 w.heap.size #[.slice (some ⟨b1,off1,none⟩) n1 c1, .slice (some ⟨b2,off2,none⟩) n2 c2]:=(((Ai.start w #[.slice (some ⟨b1,off1,none⟩) n1 c1, .slice (some ⟨b2,off2,none⟩) n2 c2]).step (al1 _ _)).step (al1 _ _)).step bp
 have X1:Ai w1 (w.heap.size+1) #[.slice none 0 0, .slice none 0 0]:=by
  have:=(Ai.start (w.alloc (.cells #[.slice (some ⟨b1,off1,none⟩) n1 c1, .slice (some ⟨b2,off2,none⟩) n2 c2] 52)) #[.slice none 0 0, .slice none 0 0]).step (al1 _ (.cells #[.slice none 0 0, .slice none 0 0] 52))
  rw[World.size_alloc] at this
  exact this.step bp
 have X2:Ai w1 (w.heap.size+1+1) #[.slice none 0 0, .slice none 0 0]:=by
  have:=Ai.start ((w.alloc (.cells #[.slice (some ⟨b1,off1,none⟩) n1 c1, .slice (some ⟨b2,off2,none⟩) n2 c2] 52)).alloc (.cells #[.slice none 0 0, .slice none 0 0] 52)) #[.slice none 0 0, .slice none 0 0]
  rw[World.size_alloc,World.size_alloc] at this
  exact this.step bp
 have B0:Below w.heap.size w w1:=Below.and (al3 w _ _ _) bp
 generalize hPL:(AB n1 0).map (EB b1 off1 c1 5)=PL at *
 have PLl:PL.length=(AB n1 0).length:=by rw[←hPL,List.length_map]
 have PLa:Hid (∀k i M,(AB n1 0)[k]? =some (i,M)->PL[k]? =some (Value.slice (some ⟨b1,off1+i*5,none⟩) M (c1-i))):=fun k i M h=>by rw[←hPL,List.getElem?_map,h];rfl
 have OP:w1.ownsRow (w.heap.size+2+1) 26 1 (.slice (some ⟨gp,0,none⟩) (AB n1 0).length qp) PL.length PL:=by
  rw[PLl]
  exact AR op (by simp)
 clear hPL;have J0:Hid (FkJ (d+1) 26 2 (fun g=>(F g/\g<w.heap.size)∨w.heap.size+2+1<=g) w w1 (.slice none 0 0) (.slice none 0 0) [] [] (.slice (some ⟨gp,0,none⟩) (AB n1 0).length qp) PL/\Ai w1 (w.heap.size+1) #[.slice none 0 0, .slice none 0 0]/\Ai w1 w.heap.size #[.slice (some ⟨b1,off1,none⟩) n1 c1, .slice (some ⟨b2,off2,none⟩) n2 c2]):=⟨⟨AX.nil _ _ _ _,X2,B0,OP⟩,X1,X0⟩
 clear op bp X0 X1 X2 B0 OP;have PLh:=hid (PLl)
 clear PLl;have P00:Hid ((AB n1 0).drop 0=AB n1 0):=rfl
 generalize hL:(AB n1 0).length=L at *
 clear hL;unfold maxLen at hqm;go_wp2;go_loopw [4,22] (fun fr ix wr=>∃(i k:Nat) (ts:List Tr) (cs:List Int) (a1 a2:Option Addr) (q1 q2:Nat),fr= .int .i64 i/\ix= .int .i64 k/\i<=n1/\(2<=n1-i∨n1<=i)/\k<=L/\ts.length<=i/\cs.length<=i/\Hid ((AB n1 0).drop k=AB n1 i)/\Hid (ts++pkT m i=T0)/\Hid (cs++pkC m i=C0)/\Hid (FkJ (d+1) 26 2 (fun g=>(F g/\g<w.heap.size)∨w.heap.size+2+1<=g) w wr (.slice a1 ts.length q1) (.slice a2 cs.length q2) ts cs (.slice (some ⟨gp,0,none⟩) L qp) PL/\Ai wr (w.heap.size+1) #[.slice none 0 0, .slice none 0 0]/\Ai wr w.heap.size #[.slice (some ⟨b1,off1,none⟩) n1 c1, .slice (some ⟨b2,off2,none⟩) n2 c2]))
  (fun _ ix _=>L-(intOf ix).toNat)
 case atStart=>exact⟨0,0,[],[],none,none,0,0,rfl,rfl,Nat.zero_le _,by omega,Nat.zero_le _,Nat.le_refl _,Nat.le_refl _,P00,T00,C00,J0⟩
 case round=>
  obtain⟨i,k,ts,cs,a1,a2,q1,q2,rfl,rfl,hin,hij,hkL,htl,hcl,DP,ET,EC,J⟩:=hrel
  clear J0 P00 T00 C00;by_cases hlt:i<n1
  ·obtain⟨hkl,hpk,hdk⟩:=PD.out i k DP.out hlt
   have PT:=PLa.out k i _ hpk
   have MN1:=MN.out (n1-i)
   have MM:Hid (n1-i=3->AM (n1-i)=3):=fun h=>by show _;rw[h];exact M3.out
   have TA1:Hid _:=TA.out i hlt
   have CA1:Hid _:=CA.out i hlt
   have NW1:Hid _:=NEW.out i (AM (n1-i))
   generalize AM (n1-i)=M at *
   have hM' :i+M<=n1:=by have:=MM.out;omega
   have hM2:2<=M:=by omega
   have NW2:=hid (fun w1 (hb:Below w.heap.size w w1)=>NW1.out w1 hb hM2 hM' rfl)
   have DP2:=hid (hdk)
   have PC:wr.cell? ⟨gp,k,none⟩=some (.slice (some ⟨b1,off1+i*5,none⟩) M (c1-i)):=by
    have h:=J.out.1.ow
    rw[PLh.out] at h
    rw[h.cellAt k (by omega)]
    exact PT
   clear hpk hdk PT NW1 DP;have hk0:(0:Int)<=(k:Int):=by omega
   have hkL' :(k:Int)<(L:Int):=by omega
   go_upto_if 27 with fail
   go_cut [6] (fun s6 wx=>s6= .slice (some ⟨b1,off1+i*5,none⟩) M (c1-i)/\∃(cs' :List Int) (a3:Option Addr) (q3:Nat),cs'.length<=i+1/\Hid (cs' ++pkC m (i+M)=C0)/\Hid (FkJ (d+1) 26 2 (fun g=>(F g/\g<w.heap.size)∨w.heap.size+2+1<=g) w wx (.slice a1 ts.length q1) (.slice a3 cs'.length q3) ts cs' (.slice (some ⟨gp,0,none⟩) L qp) PL/\Ai wx (w.heap.size+1) #[.slice none 0 0, .slice none 0 0]/\Ai wx w.heap.size #[.slice (some ⟨b1,off1,none⟩) n1 c1, .slice (some ⟨b2,off2,none⟩) n2 c2]))
   case first=>
    clear PC
    cases i with
    |zero=>
     have EC' :Hid (cs++pkC m (0+M)=C0):=by
      have h1:=CA1.out
      have h2:=EC.out
      rw[h1] at h2
      show _=_
      simpa using h2
     go_wp2;go_meet
     case rel=>exact⟨rfl,cs,a2,q2,by omega,EC',J⟩
    |succ i=>
     have EC' :Hid ((cs++[iAt m.2 i])++pkC m (i+1+M)=C0):=by
      have h1:=CA1.out
      have h2:=EC.out
      rw[h1,if_pos (by omega)] at h2
      show _=_
      simpa using h2
     have CKj:=hid (fun w1 (hb:Below w.heap.size w w1)=>CK.out i w1 hb (by omega))
     generalize iAt m.2 i=x1 at *
     have hpos:(0:Int)<((i+1:Nat):Int):=by omega
     have hpos2:0<i+1:=by omega
     have hin2:i<n2:=by omega
     have hwk2:IntKind.i64.wrap (i:Int)=(i:Int):=by rw[IntKind.wrap_i64];omega
     have hb1:(0:Int)<=(i:Int):=by omega
     have hb2:(i:Int)<(n2:Int):=by omega
     have Jd:Hid (FkJ (d+1) 26 2 (fun g=>(F g/\g<w.heap.size)∨w.heap.size+2+1<=g) w wr.drew (.slice a1 ts.length q1) (.slice a2 cs.length q2) ts cs (.slice (some ⟨gp,0,none⟩) L qp) PL/\Ai wr.drew (w.heap.size+1) #[.slice none 0 0, .slice none 0 0]/\Ai wr.drew w.heap.size #[.slice (some ⟨b1,off1,none⟩) n1 c1, .slice (some ⟨b2,off2,none⟩) n2 c2]):=⟨J.out.1.step (Below.refl _ _).drew,J.out.2.1,J.out.2.2⟩
     have hS:wr.drew.cell? ⟨w.heap.size+1+1,1,none⟩=some (.slice a2 cs.length q2)/\wr.drew.cell? ⟨w.heap.size,1,none⟩=some (.slice (some ⟨b2,off2,none⟩) n2 c2)/\wr.drew.cell? ⟨b2,off2+i,none⟩=some (.int .i64 x1):=⟨Jd.out.1.bx.two.2,Jd.out.2.2.two.2,CKj.out _ Jd.out.1.bw⟩
     clear J ET TA1 CA1 EC MM;go_wp2_with fail;refine AF (fun w' =>w'.cell? ⟨w.heap.size+1+1,1,none⟩=some (.slice a2 cs.length q2)/\w'.cell? ⟨w.heap.size,1,none⟩=some (.slice (some ⟨b2,off2,none⟩) n2 c2)/\w'.cell? ⟨b2,off2+i,none⟩=some (.int .i64 x1)) [_,_,_,_,_,_,_,_,_,_,_] _ rfl (by kernel_rfl) (by kernel_rfl) ?_
     generalize wr.drew=wd at *
     refine tq 0 rfl (by kernel_rfl) (fun _ _ _ h=>h) (by assumption) rfl (by intro w h;go_simp<;>with_reducible rfl) ?_
     try simp only[Act.put,sA,sB,sC]
     refine tq 1 rfl (by kernel_rfl) (fun _ _ _ h=>h) (by assumption) rfl (by intro w h;go_simp<;>with_reducible rfl) ?_
     try simp only[Act.put,sA,sB,sC]
     refine tq 2 rfl (by kernel_rfl) (fun _ _ _ h=>h) (by assumption) rfl (by intro w h;go_simp<;>with_reducible rfl) ?_
     try simp only[Act.put,sA,sB,sC]
     refine tq 3 rfl (by kernel_rfl) (fun _ _ _ h=>h) (by assumption) rfl (by intro w h;go_simp<;>with_reducible rfl) ?_
     try simp only[Act.put,sA,sB,sC]
     refine tq 4 rfl (by kernel_rfl) (fun _ _ _ h=>h) (by assumption) rfl (by intro w h;go_simp<;>with_reducible rfl) ?_
     try simp only[Act.put,sA,sB,sC]
     refine tq 5 rfl (by kernel_rfl) (fun _ _ _ h=>h) (by assumption) rfl (by intro w h;go_simp<;>with_reducible rfl) ?_
     try simp only[Act.put,sA,sB,sC]
     refine tq 6 rfl (by kernel_rfl) (fun _ _ _ h=>h) (by assumption) rfl (by intro w h;go_simp<;>with_reducible rfl) ?_
     try simp only[Act.put,sA,sB,sC]
     refine tq 7 rfl (by kernel_rfl) (fun _ _ _ h=>h) (by assumption) rfl (by intro w h;go_simp<;>with_reducible rfl) ?_
     try simp only[Act.put,sA,sB,sC]
     refine rq 8 (by kernel_rfl) rfl (fun K hK=> ?_)
     go_simp
     refine hK.out _ _ ⟨Ac (al1 wd _) (Aa hS.1) hS.1,Ac (al1 wd _) (Aa hS.2.1) hS.2.1,Ac (al1 wd _) (Aa hS.2.2) hS.2.2⟩ (fun hH=> ?_)
     clear hK K;try simp only[Act.put,sA,sB,sC]
     refine rq 9 (by kernel_rfl) rfl (fun K hK=> ?_)
     have HR1:Hid _:=Bl (n:=cs.length) (bytes:=8) (by omega) (by decide)
     have Ja:=Jd.out.1.step (al1 wd (.cells #[.int .i64 x1] 3))
     refine Bi (wd.alloc (.cells #[.int .i64 x1] 3)) rfl _ _ 25 rfl (w.heap.size+2+1) 3 j0 _ 1 8 Tryz.underlying25 hj0' hy0 hy1 hy2 rfl (by decide) (.slice a2 cs.length q2) cs.length (Ab cs) rfl Ja.om.rowC (.slice (some ⟨wd.heap.size,0,none⟩) 1 1) 1 (Ab [x1]) rfl (Row.laid wd (Ab [x1]) 3 _ rfl) rfl (BT _) HR1.out.1 HR1.out.2 (by have:=Ja.bx.lt;omega) ?_
     intro v5 w5 A5;obtain⟨bx5,J5⟩:=Ja.stepC (by decide) RL.out (ds:=[x1]) A5
     have hlo:∀g,wrB (.slice a2 cs.length q2) g->w.heap.size+2+1<=g:=fun g hg=>(Ja.om.rowC.lt g hg).1
     have br5:Ai w5 (w.heap.size+1) #[.slice none 0 0, .slice none 0 0]:=(Jd.out.2.1.step (al1 _ _)).chg A5.2.1 (fun h=>by have:=hlo _ h;omega)
     have bm5:Ai w5 w.heap.size #[.slice (some ⟨b1,off1,none⟩) n1 c1, .slice (some ⟨b2,off2,none⟩) n2 c2]:=(Jd.out.2.2.step (al1 _ _)).chg A5.2.1 (fun h=>by have:=hlo _ h;omega)
     obtain⟨_,_,a3,q3,_,hv5⟩:=J5.om.shape
     subst hv5;have BW5:Below w.heap.size w w5:=Ja.below' A5.2.1 (fun g hg=>by have:=hlo g hg;omega)
     have kk:=CKj.out w5 BW5
     obtain⟨m0,m1⟩:=bx5.two
     obtain⟨f0,f1⟩:=bx5.free
     have m2:=bm5.two.2
     have FIN:Hid (FkJ (d+1) 26 2 (fun g=>(F g/\g<w.heap.size)∨w.heap.size+2+1<=g) w (w5.setCell ⟨w.heap.size+1+1,1,none⟩ (.slice a3 (cs++[x1]).length q3)) (.slice a1 ts.length q1) (.slice a3 (cs++[x1]).length q3) ts (cs++[x1]) (.slice (some ⟨gp,0,none⟩) L qp) PL/\Ai (w5.setCell ⟨w.heap.size+1+1,1,none⟩ (.slice a3 (cs++[x1]).length q3)) (w.heap.size+1) #[.slice none 0 0, .slice none 0 0]/\Ai (w5.setCell ⟨w.heap.size+1+1,1,none⟩ (.slice a3 (cs++[x1]).length q3)) w.heap.size #[.slice (some ⟨b1,off1,none⟩) n1 c1, .slice (some ⟨b2,off2,none⟩) n2 c2]):=⟨J5,br5.chg (At w5 (w.heap.size+1+1) 1 _) (by omega),bm5.chg (At w5 (w.heap.size+1+1) 1 _) (by omega)⟩
     clear A5 J5 bx5 br5 bm5 BW5 hS hH Ja hlo;refine hK.out _ _ ⟨m1,m2,kk⟩ (fun hH=> ?_)
     clear hK K;try simp only[Act.put,sA,sB,sC]
     refine tq 10 rfl (by kernel_rfl) (fun _ _ _ h=>h) (by assumption) rfl (by intro w h;go_simp<;>with_reducible rfl) ?_
     try simp only[Act.put,sA,sB,sC]
     refine wpAnyH_done (by kernel_rfl) ?_ _
     show Oper.wp _ _ _ _ _ _
     go_simp
     clear m0 m1 m2 f0 f1 hH kk;go_wp2_with fail;go_meet
     case rel=>exact⟨rfl,cs++[x1],a3,q3,by simp;omega,EC',(by have h:=FIN.out;rw[show(cs++[x1]).length=cs.length+1 by simp] at h ⊢;exact h)⟩
   case rest=>
   obtain⟨rfl,cs',a3,q3,hcl',EC2,J2⟩:=hcut
   have ET2:Hid ((ts++[FJ m i])++pkT m (i+M)=T0):=by
    have h1:=TA1.out
    have h2:=ET.out
    rw[h1] at h2
    show _=_
    simpa using h2
   have hcj2:¬c2=i:=by omega
   have hjm:((i:Int)+(M:Int)).toNat=i+M:=by omega
   have hwj:IntKind.i64.wrap ((i:Int)+(M:Int))=(i:Int)+(M:Int):=by rw[IntKind.wrap_i64];omega
   have hwj2:IntKind.i64.wrap ((i:Int)+(M:Int)-1)=(i:Int)+(M:Int)-1:=by rw[IntKind.wrap_i64];omega
   have hjm2:((i:Int)+(M:Int)-1).toNat=i+M-1:=by omega
   have hjm3:i+M-1-i=M-1:=by omega
   have hb1:(0:Int)<=(i:Int):=by omega
   have hb4:(i:Int)<=(i:Int)+(M:Int)-1:=by omega
   have hb5:(i:Int)+(M:Int)-1<=(c2:Int):=by omega
   have Jd:Hid (FkJ (d+1) 26 2 (fun g=>(F g/\g<w.heap.size)∨w.heap.size+2+1<=g) w wc.drew (.slice a1 ts.length q1) (.slice a3 cs'.length q3) ts cs' (.slice (some ⟨gp,0,none⟩) L qp) PL/\Ai wc.drew (w.heap.size+1) #[.slice none 0 0, .slice none 0 0]/\Ai wc.drew w.heap.size #[.slice (some ⟨b1,off1,none⟩) n1 c1, .slice (some ⟨b2,off2,none⟩) n2 c2]):=⟨J2.out.1.step (Below.refl _ _).drew,J2.out.2.1,J2.out.2.2⟩
   have hS:wc.drew.cell? ⟨w.heap.size+1+1,0,none⟩=some (.slice a1 ts.length q1)/\wc.drew.cell? ⟨w.heap.size,1,none⟩=some (.slice (some ⟨b2,off2,none⟩) n2 c2):=⟨Jd.out.1.bx.two.1,Jd.out.2.2.two.2⟩
   have hMM:2<=n1-(i+M)∨n1<=i+M:=by have:=MM.out;omega
   generalize FJ m i=PT at *
   clear J J2 ET TA1 CA1 EC MM PC CK TA CA;go_wp2_with fail;refine AF (fun w' =>w'.cell? ⟨w.heap.size+1+1,0,none⟩=some (.slice a1 ts.length q1)/\w'.cell? ⟨w.heap.size,1,none⟩=some (.slice (some ⟨b2,off2,none⟩) n2 c2)) [_,_,_,_,_,_,_,_,_,_,_,_,_] _ rfl (by kernel_rfl) (by kernel_rfl) ?_
   generalize wc.drew=wd at *
   refine tq 0 rfl (by kernel_rfl) (fun _ _ _ h=>h) (by assumption) rfl (by intro w h;go_simp<;>with_reducible rfl) ?_
   try simp only[Act.put,sA,sB,sC]
   refine tq 1 rfl (by kernel_rfl) (fun _ _ _ h=>h) (by assumption) rfl (by intro w h;go_simp<;>with_reducible rfl) ?_
   try simp only[Act.put,sA,sB,sC]
   refine tq 2 rfl (by kernel_rfl) (fun _ _ _ h=>h) (by assumption) rfl (by intro w h;go_simp<;>with_reducible rfl) ?_
   try simp only[Act.put,sA,sB,sC]
   refine tq 3 rfl (by kernel_rfl) (fun _ _ _ h=>h) (by assumption) rfl (by intro w h;go_simp<;>with_reducible rfl) ?_
   try simp only[Act.put,sA,sB,sC]
   refine tq 4 rfl (by kernel_rfl) (fun _ _ _ h=>h) (by assumption) rfl (by intro w h;go_simp<;>with_reducible rfl) ?_
   try simp only[Act.put,sA,sB,sC]
   refine tq 5 rfl (by kernel_rfl) (fun _ _ _ h=>h) (by assumption) rfl (by intro w h;go_simp<;>with_reducible rfl) ?_
   try simp only[Act.put,sA,sB,sC]
   refine tq 6 rfl (by kernel_rfl) (fun _ _ _ h=>h) (by assumption) rfl (by intro w h;go_simp<;>with_reducible rfl) ?_
   try simp only[Act.put,sA,sB,sC]
   refine tq 7 rfl (by kernel_rfl) (fun _ _ _ h=>h) (by assumption) rfl (by intro w h;go_simp<;>with_reducible rfl) ?_
   try simp only[Act.put,sA,sB,sC]
   refine tq 8 rfl (by kernel_rfl) (fun _ _ _ h=>h) (by assumption) rfl (by intro w h;go_simp<;>with_reducible rfl) ?_
   try simp only[Act.put,sA,sB,sC]
   refine tq 9 rfl (by kernel_rfl) (fun _ _ _ h=>h) (by assumption) rfl (by intro w h;go_simp<;>with_reducible rfl) ?_
   try simp only[Act.put,sA,sB,sC]
   refine rq 10 (by kernel_rfl) rfl (fun K hK=> ?_)
   go_simp
   refine hK.out _ _ ⟨Ac (al1 wd _) (Aa hS.1) hS.1,Ac (al1 wd _) (Aa hS.2) hS.2⟩ (fun hH=> ?_)
   clear hK K;try simp only[Act.put,sA,sB,sC]
   refine rq 11 (by kernel_rfl) rfl (fun K hK=> ?_)
   have Ja:=Jd.out.1.step (al1 wd (.cells #[.bool false, .slice none 0 0, .slice (some ⟨b2,off2+i,none⟩) (M-1) (c2-i), .slice (some ⟨b1,off1+i*5,none⟩) M (c1-i), .slice none 0 0] 29))
   obtain⟨xs,y1,y2,y3,y4,y5⟩:=Ja.om
   have HR1:Hid _:=Bl (n:=xs.length) (bytes:=104) (by omega) (by decide)
   have hlo:∀g,wrB (.slice a1 ts.length q1) g->w.heap.size+2+1<=g:=fun g hg=>(y2.lt g hg).1
   have hlc:∀g,wrB (.slice a3 cs'.length q3) g->w.heap.size+2+1<=g:=fun g hg=>(y3.lt g hg).1
   have TN:=NW2.out _ Ja.bw
   rw[←y1] at y2
   refine Bi (wd.alloc (.cells #[.bool false, .slice none 0 0, .slice (some ⟨b2,off2+i,none⟩) (M-1) (c2-i), .slice (some ⟨b1,off1+i*5,none⟩) M (c1-i), .slice none 0 0] 29)) rfl _ _ 26 rfl (w.heap.size+2+1) 29 i0 _ 5 104 Tryz.underlying26 hi0 hz0 hz1 hz2 rfl (by decide) (.slice a1 ts.length q1) xs.length (Ap xs) rfl (by rw[←y1];exact y2) (.slice (some ⟨wd.heap.size,0,none⟩) 1 1) 1 (Ap [⟨false, .slice none 0 0, .slice (some ⟨b2,off2+i,none⟩) (M-1) (c2-i), .slice (some ⟨b1,off1+i*5,none⟩) M (c1-i), .slice none 0 0⟩]) rfl (Row.laid wd [.bool false, .slice none 0 0, .slice (some ⟨b2,off2+i,none⟩) (M-1) (c2-i), .slice (some ⟨b1,off1+i*5,none⟩) M (c1-i), .slice none 0 0] 29 _ rfl) rfl Nm HR1.out.1 HR1.out.2 (by have:=Ja.bx.lt;omega) ?_
   intro v5 w5 A5;obtain⟨bx5,J5⟩:=Ja.stepT (by decide) RL.out (ys:=[⟨false, .slice none 0 0, .slice (some ⟨b2,off2+i,none⟩) (M-1) (c2-i), .slice (some ⟨b1,off1+i*5,none⟩) M (c1-i), .slice none 0 0⟩]) (m:=1) rfl (us:=[PT]) rfl (fun j hj=>by
    have e:j=0:=by simp at hj;omega
    subst e;exact TN.mono fun g hg=>⟨.inl hg,fun h=>by have:=hlo g h;omega,fun h=>by have:=hlc g h;omega⟩) y1 y5 (by rw[←y1];exact y2) A5
   have br5:Ai w5 (w.heap.size+1) #[.slice none 0 0, .slice none 0 0]:=(Jd.out.2.1.step (al1 _ _)).chg A5.2.1 (fun h=>by have:=hlo _ h;omega)
   have bm5:Ai w5 w.heap.size #[.slice (some ⟨b1,off1,none⟩) n1 c1, .slice (some ⟨b2,off2,none⟩) n2 c2]:=(Jd.out.2.2.step (al1 _ _)).chg A5.2.1 (fun h=>by have:=hlo _ h;omega)
   obtain⟨a4,q4,_,_,hv5,_⟩:=J5.om.shape
   subst hv5;obtain⟨m0,m1⟩:=bx5.two
   obtain⟨f0,f1⟩:=bx5.free
   have m2:=bm5.two.2
   have FIN:Hid (FkJ (d+1) 26 2 (fun g=>(F g/\g<w.heap.size)∨w.heap.size+2+1<=g) w (w5.setCell ⟨w.heap.size+1+1,0,none⟩ (.slice a4 (ts++[PT]).length q4)) (.slice a4 (ts++[PT]).length q4) (.slice a3 cs'.length q3) (ts++[PT]) cs' (.slice (some ⟨gp,0,none⟩) L qp) PL/\Ai (w5.setCell ⟨w.heap.size+1+1,0,none⟩ (.slice a4 (ts++[PT]).length q4)) (w.heap.size+1) #[.slice none 0 0, .slice none 0 0]/\Ai (w5.setCell ⟨w.heap.size+1+1,0,none⟩ (.slice a4 (ts++[PT]).length q4)) w.heap.size #[.slice (some ⟨b1,off1,none⟩) n1 c1, .slice (some ⟨b2,off2,none⟩) n2 c2]):=⟨J5,br5.chg (At w5 (w.heap.size+1+1) 0 _) (by omega),bm5.chg (At w5 (w.heap.size+1+1) 0 _) (by omega)⟩
   have htl2:(ts++[PT]).length=ts.length+1:=by simp
   clear A5 J5 bx5 br5 bm5 hS hH Ja hlo hlc y1 y2 y3 y4 y5 TN;refine hK.out _ _ ⟨m0,m2⟩ (fun hH=> ?_)
   clear hK K;try simp only[Act.put,sA,sB,sC]
   refine tq 12 rfl (by kernel_rfl) (fun _ _ _ h=>h) (by assumption) rfl (by intro w h;go_simp<;>with_reducible rfl) ?_
   try simp only[Act.put,sA,sB,sC]
   refine wpAnyH_done (by kernel_rfl) ?_ _
   show Oper.wp _ _ _ _ _ _
   go_simp
   clear m0 m1 m2 f0 f1 hH;rw[htl2] at FIN
   go_wp2;go_roundw
   case rel=>exact⟨i+M,k+1,ts++[PT],cs',a4,a3,q4,q3,by go_num,by go_num,hM',hMM,by omega,by omega,by omega,DP2,ET2,EC2,(by rw[htl2];exact FIN)⟩
   case measure=>simp[intOf];omega
  ·have hi' :i=n1:=by omega
   have hkk:k=L:=by
    have:=PE.out i k DP.out hlt
    omega
   have E1:Hid (ts=T0):=by
    have:=ET.out
    rw[TE.out i hlt,List.append_nil] at this
    exact this
   have E2:Hid (cs=C0):=by
    have:=EC.out
    rw[CE.out i hlt,List.append_nil] at this
    exact this
   have hnk:¬((k:Int)<(L:Int)):=by omega
   obtain⟨r0,r1⟩:=J.out.1.bx.two
   obtain⟨z0,z1⟩:=J.out.2.1.two
   obtain⟨y0,y1⟩:=J.out.2.1.free
   have FIN:Hid (∀x y,Ad (d+1) (setR wr (w.heap.size+1) x y) (fun b=>F b∨w.heap.size<=b) (.slice a1 ts.length q1) ts/\Aj (setR wr (w.heap.size+1) x y) (fun b=>F b∨w.heap.size<=b) (.slice a2 cs.length q2) cs.length (Ab cs)/\Below w.heap.size w (setR wr (w.heap.size+1) x y)/\Ai (setR wr (w.heap.size+1) x y) (w.heap.size+1) #[x,y]):=fun x y=>by
    have o1:=J.out.1.om.chg (Av wr (w.heap.size+1) x y) (fun g hg=>⟨fun k=>by omega,by omega⟩)
    obtain⟨t1,t2⟩:=o1.trees (fun g hg=> .inr hg)
    refine⟨t1.mono (fun g hg=> ?_),t2.mono (fun g hg=> ?_),(J.out.1.bw.setCell (p:=⟨w.heap.size+1,0,none⟩) (Nat.le_succ _) x).setCell (p:=⟨w.heap.size+1,1,none⟩) (Nat.le_succ _) y,J.out.2.1.set2 x y⟩
    ·rcases hg with hg|hg
     ·exact .inl hg.1
     ·exact .inr (by omega)
    ·rcases hg with hg|hg
     ·exact .inl hg.1
     ·exact .inr (by omega)
   clear J ET EC hi' hkk;go_wp2;obtain⟨f1,f2,f3,f4⟩:=FIN.out (.slice a1 ts.length q1) (.slice a2 cs.length q2)
   have Z:=f4.two
   have e1:ts=T0:=E1.out
   have e2:cs=C0:=E2.out
   subst e1 e2;exact bodyPost_ret (v:= .agg #[.slice a1 ts.length q1, .slice a2 cs.length q2]) (by simp[results,Tryz.results52,go_sem,Z.1,Z.2]) rfl ⟨_,_,rfl,f1,f2,f3⟩

theorem QV (d:Nat) (F:Nat->Prop) (vt vc:Value) (m:TM) (w:World) (ht:Ad d w F vt m.1) (hc:Aj w F vc m.2.length (Ab m.2)) (h4:m.1.length<=4) :
  Calls Tryz.prog 52 #[.agg #[vt,vc]] w fun e w' =>∃v1,e= .returned (.agg #[v1, .slice none 0 0])/\Ad (d+1) w' (fun b=>F b∨w.heap.size<=b) v1 [⟨false,[],m.2,m.1,[]⟩]/\Below w.heap.size w w' :=by
 have hT:Aq (d+1) w F ⟨false, .slice none 0 0,vc,vt, .slice none 0 0⟩ ⟨false,[],m.2,m.1,[]⟩:=Aq.mk rfl (Aj.nil _ _) hc (Aj.nil _ _) ht
 obtain⟨a1,q1,hvt,_⟩:=ht.els.choose_spec.2.row.len
 obtain⟨a2,q2,hvc,_⟩:=hc.row.len
 subst hvt hvc;have HR:Hid (∀w1,Below w.heap.size w w1->Calls Tryz.prog 66 #[.agg #[.bool false, .slice none 0 0, .slice a2 m.2.length q2, .slice a1 m.1.length q1, .slice none 0 0]] w1 fun e w' =>∃vt,e= .returned (.agg #[vt, .slice none 0 0])/\Ad (d+1) w' (fun g=>(F g/\g<w.heap.size)∨w1.heap.size<=g) vt [⟨false,[],m.2,m.1,[]⟩]/\Below w1.heap.size w1 w'):=fun w1 hb=>
  GR (d+1) (fun g=>F g/\g<w.heap.size) ⟨false, .slice none 0 0, .slice a2 m.2.length q2, .slice a1 m.1.length q1, .slice none 0 0⟩ ⟨false,[],m.2,m.1,[]⟩ w1 (hT.lt.below hb)
 clear ht hc hT;generalize m.1.length=n1 at *
 generalize m.2.length=n2 at *
 have hle:(n1:Int)<=4:=by omega
 go_enter Tryz.func52,Tryz.ntmps52
 go_wp2_with fail;refine Calls.mono (HR.out _ (al2 _ _ _)) ?_
 rintro e w1 ⟨v1,rfl,t1,b1⟩
 obtain⟨xs,ex,rx⟩:=t1.els
 obtain⟨a5,q5,hv1,_⟩:=rx.row.len
 subst hv1;have X1:Ai w1 (w.heap.size+1) #[.slice none 0 0, .slice none 0 0]:=by
  have:=Ai.start (w.alloc (.cells #[.slice a1 n1 q1, .slice a2 n2 q2] 52)) #[.slice none 0 0, .slice none 0 0]
  rw[World.size_alloc] at this
  exact this.step b1
 have BW:Below w.heap.size w w1:=Below.and (al2 _ _ _) b1
 obtain⟨g0,g1⟩:=X1.two
 obtain⟨f0,f1⟩:=X1.free
 have hs2:w.heap.size+2<=((w.alloc (.cells #[.slice a1 n1 q1, .slice a2 n2 q2] 52)).alloc (.cells #[.slice none 0 0, .slice none 0 0] 52)).heap.size:=by simp
 have FIN:Hid (Ad (d+1) (setR w1 (w.heap.size+1) (.slice a5 1 q5) (.slice none 0 0)) (fun b=>F b∨w.heap.size<=b) (.slice a5 1 q5) [⟨false,[],m.2,m.1,[]⟩]/\Below w.heap.size w (setR w1 (w.heap.size+1) (.slice a5 1 q5) (.slice none 0 0))/\Ai (setR w1 (w.heap.size+1) (.slice a5 1 q5) (.slice none 0 0)) (w.heap.size+1) #[.slice a5 1 q5, .slice none 0 0]):=
  ⟨(t1.chg (Av w1 (w.heap.size+1) _ _) (fun g hg e=>by rcases hg with⟨_,h⟩|h<;>omega)).mono (fun g hg=>hg.imp And.left (fun h=>by omega)),(BW.setCell (p:=⟨w.heap.size+1,0,none⟩) (Nat.le_succ _) _).setCell (p:=⟨w.heap.size+1,1,none⟩) (Nat.le_succ _) _,X1.set2 _ _⟩
 clear t1 b1 X1 BW rx ex hs2;go_wp2;have Z:=FIN.out.2.2.two
 exact bodyPost_ret (v:= .agg #[.slice a5 1 q5, .slice none 0 0]) (by simp[results,Tryz.results52,go_sem,Z.1,Z.2]) rfl ⟨_,rfl,FIN.out.1,FIN.out.2.1⟩

theorem GH (d:Nat) (F:Nat->Prop) (vt vc:Value) (m:TM) (w:World) (ht:Ad d w F vt m.1) (hc:Aj w F vc m.2.length (Ab m.2)) (hm:m.2.length+1=m.1.length) (hn:m.1.length<=1048576) :
  Calls Tryz.prog 52 #[.agg #[vt,vc]] w fun e w' =>∃v1 v2,e= .returned (.agg #[v1,v2])/\Ad (d+1) w' (fun b=>F b∨w.heap.size<=b) v1 (Bc m).1/\Aj w' (fun b=>F b∨w.heap.size<=b) v2 (Bc m).2.length (Ab (Bc m).2)/\Below w.heap.size w w' :=by
 unfold Bc;by_cases h:4<m.1.length
 ·rw[if_pos h]
  exact Qc d F vt vc m w ht hc hm h hn
 ·rw[if_neg h]
  refine(QV d F vt vc m w ht hc (by omega)).mono ?_
  rintro e w' ⟨v1,rfl,t,b⟩
  exact⟨v1,_,rfl,t,Aj.nil _ _,b⟩
end
end Go.Proofs.YtnakaabnjelffaaGreat
