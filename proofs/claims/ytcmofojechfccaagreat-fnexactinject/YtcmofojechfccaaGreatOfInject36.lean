/-
  The program's kidByKid, for the two functions that are handed to it.
  The program's giveDown: all messages given down, kid by kid.
-/
import Derived.Test.YtcmofojechfccaaGreatOfInject25
import Derived.Test.YtcmofojechfccaaGreatOfInject35
namespace Go.Proofs.YtcmofojechfccaaGreat
set_option maxRecDepth 100000
set_option maxHeartbeats 8000000
section
open Go.RowKit

theorem kidByKidG_any (d:Nat) (F:Nat->Prop) (vt vc:Value) (c1 c2:Nat) (m:TM) (f:Nat->TM) (xs:List TV) (w:World) (hx:Els d w F xs m.1) (hr:RowF w F vt xs.length (flatT xs)) (hc:RowF w F vc m.2.length (flatI m.2))
  (hl:m.2.length+1=m.1.length) (h2:2<=m.1.length) (hf:∀i,i<m.1.length->(f i).2.length+1=(f i).1.length) (hb:∀k,k<=m.1.length->(kbk f m k).1.length<=400000) (hbf:∀k,k<m.1.length->(f k).1.length<=400000)
  (D:∀(i:Nat) (u:World),i<m.1.length->Below w.heap.size w u->Calls Tryz.prog 153 #[.int .i64 (i:Nat),(tvAt xs i).val, .pointer (some ⟨c1,0,none⟩), .pointer (some ⟨c2,0,none⟩)] u fun e u' =>∃v1 v2,e= .returned (.agg #[v1,v2])/\TreesF d u' (fun g=>(F g/\g<w.heap.size)∨u.heap.size<=g) v1 (f i).1/\RowF u' (fun g=>(F g/\g<w.heap.size)∨u.heap.size<=g) v2 (f i).2.length (flatI (f i).2)/\Below u.heap.size u u') :
  Calls Tryz.prog 121 #[.agg #[vt,vc], .func (.func 153) #[] #[.pointer (some ⟨c1,0,none⟩), .pointer (some ⟨c2,0,none⟩)]] w fun e w' =>∃v1 v2,e= .returned (.agg #[v1,v2])/\TreesF d w' (fun g=>F g∨w.heap.size<=g) v1 (bothM f m).1/\RowF w' (fun g=>F g∨w.heap.size<=g) v2 (bothM f m).2.length (flatI (bothM f m).2)/\Below w.heap.size w w' :=by
 have hxl:=hx.1
 obtain⟨_,b1,o1,q1,hv1,hcap1,hmax1,ha1,c0,c1,c2,c3,c4⟩:=hr.row.trees
 obtain⟨_,b2,o2,q2,hv2,hcap2,hmax2,ha2,_⟩:=hc.row.ints
 have ha1' :=ha1 (by omega)
 have ha2' :=ha2 (by omega)
 subst ha1' ha2'
 rw[hxl] at hv1 hcap1 c0 c1 c2 c3 c4
 have ht0:TreesF d w F vt m.1:=hx.trees hr
 subst hv1 hv2
 have CC:Hid (∀(i:Nat) (u:World),i<m.1.length->Below w.heap.size w u->u.cell? ⟨b1,o1+i*5,none⟩=some (.bool (tvAt xs i).lf)/\u.cell? ⟨b1,o1+i*5+1,none⟩=some (tvAt xs i).p/\u.cell? ⟨b1,o1+i*5+2,none⟩=some (tvAt xs i).c/\u.cell? ⟨b1,o1+i*5+3,none⟩=some (tvAt xs i).k/\u.cell? ⟨b1,o1+i*5+4,none⟩=some (tvAt xs i).b):=fun i u hi hu=>
  ⟨cell_lowB hu (cell_lt (c0 i hi)) (c0 i hi),cell_lowB hu (cell_lt (c1 i hi)) (c1 i hi),cell_lowB hu (cell_lt (c2 i hi)) (c2 i hi),cell_lowB hu (cell_lt (c3 i hi)) (c3 i hi),cell_lowB hu (cell_lt (c4 i hi)) (c4 i hi)⟩
 have SH:Hid (∀i,i<m.1.length->∃(r1 r2 r3 r4:Option Addr) (z1 z2 z3 z4 s1 s2 s3 s4:Nat) (z0:Bool),tvAt xs i=⟨z0, .slice r1 z1 s1, .slice r2 z2 s2, .slice r3 z3 s3, .slice r4 z4 s4⟩):=fun i hi=>by
  obtain⟨r1,r2,r3,r4,s1,s2,s3,s4,e⟩:=(hx.2 i (by omega)).treeAt.shape
  exact⟨r1,r2,r3,r4,_,_,_,_,s1,s2,s3,s4,_,e⟩
 have DD:Hid _:=D
 have KP:Hid (∀k,k<m.1.length->putM (kbk f m k) (sideT f k).length (f k)=kbk f m (k+1)):=fun k hk=>kbk_put hl hk fun i hi=>hf i (by omega)
 have KL:Hid (∀k,k<=m.1.length->(kbk f m k).2.length+1=(kbk f m k).1.length):=fun k hk=>kbk_len hl k hk fun i hi=>hf i (by omega)
 have KA:Hid (kbk f m m.1.length=bothM f m):=kbk_all hl
 have KZ:Hid (kbk f m 0=m):=kbk_zero f m
 have HB:Hid _:=hb
 have HBF:Hid _:=hbf
 have HF:Hid _:=hf
 have KT:Hid (∀k,k<=m.1.length->2<=(kbk f m k).1.length/\(k<m.1.length->(sideT f k).length<(kbk f m k).1.length)/\(sideT f k).length<=400000):=fun k hk=>by
  have h3:k<=(sideT f k).length:=by
   clear DD D HB hb KA KP KL
   induction k with
   |zero=>exact Nat.zero_le _
   |succ k ih=>
    have:=ih (by omega)
    have:=hf k (by omega)
    rw[sideT,List.length_append]
    omega
  have h4:(kbk f m k).1.length=(sideT f k).length+(m.1.length-k):=by simp[kbk]
  have:=hb k hk
  omega
 have SS:Hid (∀k,(sideT f (k+1)).length=(sideT f k).length+(f k).1.length):=fun k=>by show _=_;rw[sideT,List.length_append]
 have J0:Hid (∃(e1 e2:Option Addr) (p1 p2:Nat),BoxR (((w.alloc (.cells #[.slice (some ⟨b1,o1,none⟩) m.1.length q1, .slice (some ⟨b2,o2,none⟩) m.2.length q2] 96)).alloc (.cells #[.slice none 0 0, .slice none 0 0] 96)).alloc (.cells #[.slice (some ⟨b1,o1,none⟩) m.1.length q1, .slice (some ⟨b2,o2,none⟩) m.2.length q2] 96)) (w.heap.size+2) #[.slice e1 (kbk f m 0).1.length p1, .slice e2 (kbk f m 0).2.length p2]/\TreesF d (((w.alloc (.cells #[.slice (some ⟨b1,o1,none⟩) m.1.length q1, .slice (some ⟨b2,o2,none⟩) m.2.length q2] 96)).alloc (.cells #[.slice none 0 0, .slice none 0 0] 96)).alloc (.cells #[.slice (some ⟨b1,o1,none⟩) m.1.length q1, .slice (some ⟨b2,o2,none⟩) m.2.length q2] 96)) (fun g=>(F g/\g<w.heap.size)∨w.heap.size+3<=g) (.slice e1 (kbk f m 0).1.length p1) (kbk f m 0).1/\RowF (((w.alloc (.cells #[.slice (some ⟨b1,o1,none⟩) m.1.length q1, .slice (some ⟨b2,o2,none⟩) m.2.length q2] 96)).alloc (.cells #[.slice none 0 0, .slice none 0 0] 96)).alloc (.cells #[.slice (some ⟨b1,o1,none⟩) m.1.length q1, .slice (some ⟨b2,o2,none⟩) m.2.length q2] 96)) (fun g=>(F g/\g<w.heap.size)∨w.heap.size+3<=g) (.slice e2 (kbk f m 0).2.length p2) (kbk f m 0).2.length (flatI (kbk f m 0).2)/\BoxR (((w.alloc (.cells #[.slice (some ⟨b1,o1,none⟩) m.1.length q1, .slice (some ⟨b2,o2,none⟩) m.2.length q2] 96)).alloc (.cells #[.slice none 0 0, .slice none 0 0] 96)).alloc (.cells #[.slice (some ⟨b1,o1,none⟩) m.1.length q1, .slice (some ⟨b2,o2,none⟩) m.2.length q2] 96)) w.heap.size #[.slice (some ⟨b1,o1,none⟩) m.1.length q1, .slice (some ⟨b2,o2,none⟩) m.2.length q2]/\BoxR (((w.alloc (.cells #[.slice (some ⟨b1,o1,none⟩) m.1.length q1, .slice (some ⟨b2,o2,none⟩) m.2.length q2] 96)).alloc (.cells #[.slice none 0 0, .slice none 0 0] 96)).alloc (.cells #[.slice (some ⟨b1,o1,none⟩) m.1.length q1, .slice (some ⟨b2,o2,none⟩) m.2.length q2] 96)) (w.heap.size+1) #[.slice none 0 0, .slice none 0 0]/\Below w.heap.size w (((w.alloc (.cells #[.slice (some ⟨b1,o1,none⟩) m.1.length q1, .slice (some ⟨b2,o2,none⟩) m.2.length q2] 96)).alloc (.cells #[.slice none 0 0, .slice none 0 0] 96)).alloc (.cells #[.slice (some ⟨b1,o1,none⟩) m.1.length q1, .slice (some ⟨b2,o2,none⟩) m.2.length q2] 96))):=by
  refine⟨some ⟨b1,o1,none⟩,some ⟨b2,o2,none⟩,q1,q2, ?_⟩
  rw[KZ.out]
  refine⟨?_,(ht0.lt.below (al3 _ _ _ _)).mono (fun g hg=> .inl hg),((hc.lt (flatI_ne _).2).below (al3 _ _ _ _)).mono (fun g hg=> .inl hg),((BoxR.start w _).step (al1 _ _)).step (al1 _ _), ?_,al3 _ _ _ _⟩
  ·have:=BoxR.start ((w.alloc (.cells #[.slice (some ⟨b1,o1,none⟩) m.1.length q1, .slice (some ⟨b2,o2,none⟩) m.2.length q2] 96)).alloc (.cells #[.slice none 0 0, .slice none 0 0] 96)) #[.slice (some ⟨b1,o1,none⟩) m.1.length q1, .slice (some ⟨b2,o2,none⟩) m.2.length q2]
   rw[World.size_alloc,World.size_alloc] at this
   exact this
  ·have:=(BoxR.start (w.alloc (.cells #[.slice (some ⟨b1,o1,none⟩) m.1.length q1, .slice (some ⟨b2,o2,none⟩) m.2.length q2] 96)) #[.slice none 0 0, .slice none 0 0]).step (al1 _ (.cells #[.slice (some ⟨b1,o1,none⟩) m.1.length q1, .slice (some ⟨b2,o2,none⟩) m.2.length q2] 96))
   rw[World.size_alloc] at this
   exact this
 clear hx hr hc ht0 c0 c1 c2 c3 c4 D hb hbf hf ha1 ha2
 generalize hn1:m.1.length=n1 at *
 generalize hn2:m.2.length=n2 at *
 clear hn1 hn2
 rw[←KA.out]
 unfold maxLen at hmax1 hmax2
 go_enter Tryz.func121,Tryz.ntmps121
 go_wp2
 go_loopw [6,14] (fun at_ ix wr=>∃(k:Nat) (e1 e2:Option Addr) (p1 p2:Nat),at_= .int .i64 ((sideT f k).length:Nat)/\ix= .int .i64 k/\k<=n1/\Hid (BoxR wr (w.heap.size+2) #[.slice e1 (kbk f m k).1.length p1, .slice e2 (kbk f m k).2.length p2]/\TreesF d wr (fun g=>(F g/\g<w.heap.size)∨w.heap.size+3<=g) (.slice e1 (kbk f m k).1.length p1) (kbk f m k).1/\RowF wr (fun g=>(F g/\g<w.heap.size)∨w.heap.size+3<=g) (.slice e2 (kbk f m k).2.length p2) (kbk f m k).2.length (flatI (kbk f m k).2)/\BoxR wr w.heap.size #[.slice (some ⟨b1,o1,none⟩) n1 q1, .slice (some ⟨b2,o2,none⟩) n2 q2]/\BoxR wr (w.heap.size+1) #[.slice none 0 0, .slice none 0 0]/\Below w.heap.size w wr))
  (fun _ ix _=>n1-(intOf ix).toNat)
 case atStart=>obtain⟨e1,e2,p1,p2,h⟩:=J0.out;exact⟨0,e1,e2,p1,p2,rfl,rfl,Nat.zero_le _,h⟩
 case round=>
  obtain⟨k,e1,e2,p1,p2,rfl,rfl,hk,JJ⟩:=hrel
  clear J0
  obtain⟨j1,j2,j3,j4,j5,j6⟩:=JJ.out
  by_cases hlt:k<n1
  ·obtain⟨d0,d1,d2,d3,d4⟩:=CC.out k wr hlt j6
   obtain⟨r1,r2,r3,r4,z1,z2,z3,z4,s1,s2,s3,s4,z0,hy⟩:=SH.out k hlt
   have D1:=DD.out k (wr.alloc (.cells #[.bool (tvAt xs k).lf,(tvAt xs k).p,(tvAt xs k).c,(tvAt xs k).k,(tvAt xs k).b] 35)) hlt (Below.and j6 (al1 _ _))
   rw[hy] at d0 d1 d2 d3 d4 D1
   simp only at d0 d1 d2 d3 d4
   dsimp only at D1
   have D2:Hid _:=D1
   obtain⟨kt1,kt2,kt3⟩:=KT.out k hk
   have kt4:=kt2 hlt
   have ss:=SS.out k
   have hbf:=HBF.out k hlt
   have hff:=HF.out k hlt
   have kp:=KP.out k hlt
   have kl:=KL.out k hk
   have hbk:=HB.out k hk
   have hk0:(0:Int)<=(k:Int):=by omega
   have hkn:(k:Int)<(n1:Int):=by omega
   clear D1 hy j1 j2 j3 j4 j5 j6 kt2
   go_wp2_with fail
   refine Calls.mono D2.out ?_
   rintro e w1 ⟨v1,v2,rfl,t1,t2,pb⟩
   obtain⟨x1,y1,hv1,_⟩:=t1.els.choose_spec.2.row.len
   obtain⟨x2,y2,hv2,_⟩:=t2.row.len
   subst hv1 hv2
   have B1:Below wr.heap.size wr (w1.alloc (.cells #[.slice x1 (f k).1.length y1, .slice x2 (f k).2.length y2] 96)):=Below.and (Below.and (al1 _ _) pb) (al1 _ _)
   have hs3:w.heap.size+3<=wr.heap.size:=by have:=JJ.out.1.lt;omega
   have hw1:wr.heap.size+1<=w1.heap.size:=by have:=pb.size;simpa using this
   have M1:∀g,(F g/\g<w.heap.size)∨(wr.alloc (.cells #[.bool z0, .slice r1 z1 s1, .slice r2 z2 s2, .slice r3 z3 s3, .slice r4 z4 s4] 35)).heap.size<=g->(F g/\g<w.heap.size)∨w.heap.size+3<=g:=fun g hg=>hg.imp id fun h=>by simp at h;omega
   obtain⟨j1,j2,j3,j4,j5,j6⟩:=JJ.out
   have IP:Hid _:=inPlaceOf_any d (fun g=>(F g/\g<w.heap.size)∨w.heap.size+3<=g) (.slice e1 (kbk f m k).1.length p1) (.slice e2 (kbk f m k).2.length p2) (.slice x1 (f k).1.length y1) (.slice x2 (f k).2.length y2) (kbk f m k) (f k) (sideT f k).length (w1.alloc (.cells #[.slice x1 (f k).1.length y1, .slice x2 (f k).2.length y2] 96)) (j2.below B1) (j3.below B1) ((t1.mono M1).below (al1 _ _)) ((t2.mono M1).below (al1 _ _)) kl kt1 kt4 (by omega) (by omega) (by omega)
   obtain⟨a0,a1'⟩:=(j1.step B1).two
   have JB:Hid (Below wr.heap.size wr (w1.alloc (.cells #[.slice x1 (f k).1.length y1, .slice x2 (f k).2.length y2] 96))):=B1
   have CBX:=BoxR.start w1 #[.slice x1 (f k).1.length y1, .slice x2 (f k).2.length y2]
   have CX:Hid _:=CBX
   clear t1 t2 pb B1 M1 j1 j2 j3 j4 j5 j6 D2 d0 d1 d2 d3 d4 CBX
   go_wp2_with fail
   refine Calls.mono IP.out ?_
   rintro e w3 ⟨v3,v4,rfl,t3,t4,pb3⟩
   obtain⟨x3,y3,hv3,_⟩:=t3.els.choose_spec.2.row.len
   obtain⟨x4,y4,hv4,_⟩:=t4.row.len
   subst hv3 hv4
   obtain⟨j1,j2,j3,j4,j5,j6⟩:=JJ.out
   have B3:=Below.and JB.out pb3
   have k1:=j1.step B3
   obtain⟨g0,g1⟩:=k1.two
   obtain⟨f0,f1⟩:=k1.free
   have cx:BoxR w3 w1.heap.size #[.slice x1 (f k).1.length y1, .slice x2 (f k).2.length y2]:=BoxR.step CX.out pb3
   obtain⟨h0,h1⟩:=(cx.setR (L:=w.heap.size+2) (.slice x3 (putM (kbk f m k) (sideT f k).length (f k)).1.length y3) (.slice x4 (putM (kbk f m k) (sideT f k).length (f k)).2.length y4) (by omega)).two
   have hsz:wr.heap.size<=(w1.alloc (.cells #[.slice x1 (f k).1.length y1, .slice x2 (f k).2.length y2] 96)).heap.size:=JB.out.size
   have NX:Hid (∃(e1 e2:Option Addr) (p1 p2:Nat),BoxR (setR w3 (w.heap.size+2) (.slice x3 (putM (kbk f m k) (sideT f k).length (f k)).1.length y3) (.slice x4 (putM (kbk f m k) (sideT f k).length (f k)).2.length y4)) (w.heap.size+2) #[.slice e1 (kbk f m (k+1)).1.length p1, .slice e2 (kbk f m (k+1)).2.length p2]/\TreesF d (setR w3 (w.heap.size+2) (.slice x3 (putM (kbk f m k) (sideT f k).length (f k)).1.length y3) (.slice x4 (putM (kbk f m k) (sideT f k).length (f k)).2.length y4)) (fun g=>(F g/\g<w.heap.size)∨w.heap.size+3<=g) (.slice e1 (kbk f m (k+1)).1.length p1) (kbk f m (k+1)).1/\RowF (setR w3 (w.heap.size+2) (.slice x3 (putM (kbk f m k) (sideT f k).length (f k)).1.length y3) (.slice x4 (putM (kbk f m k) (sideT f k).length (f k)).2.length y4)) (fun g=>(F g/\g<w.heap.size)∨w.heap.size+3<=g) (.slice e2 (kbk f m (k+1)).2.length p2) (kbk f m (k+1)).2.length (flatI (kbk f m (k+1)).2)/\BoxR (setR w3 (w.heap.size+2) (.slice x3 (putM (kbk f m k) (sideT f k).length (f k)).1.length y3) (.slice x4 (putM (kbk f m k) (sideT f k).length (f k)).2.length y4)) w.heap.size #[.slice (some ⟨b1,o1,none⟩) n1 q1, .slice (some ⟨b2,o2,none⟩) n2 q2]/\BoxR (setR w3 (w.heap.size+2) (.slice x3 (putM (kbk f m k) (sideT f k).length (f k)).1.length y3) (.slice x4 (putM (kbk f m k) (sideT f k).length (f k)).2.length y4)) (w.heap.size+1) #[.slice none 0 0, .slice none 0 0]/\Below w.heap.size w (setR w3 (w.heap.size+2) (.slice x3 (putM (kbk f m k) (sideT f k).length (f k)).1.length y3) (.slice x4 (putM (kbk f m k) (sideT f k).length (f k)).2.length y4))):=by
    rw[←kp]
    refine⟨x3,x4,y3,y4,k1.set2 _ _,(t3.chg (chg_setR w3 (w.heap.size+2) _ _) (fun g hg e=> ?_)).mono (fun g hg=> ?_),(t4.chg (chg_setR w3 (w.heap.size+2) _ _) (fun g hg e=> ?_)).mono (fun g hg=> ?_),(j4.step B3).setR _ _ (by omega),(j5.step B3).setR _ _ (by omega),((Below.and j6 B3).setCell (p:=⟨w.heap.size+2,0,none⟩) (Nat.le_add_right _ _) _).setCell (p:=⟨w.heap.size+2,1,none⟩) (Nat.le_add_right _ _) _⟩
    ·rcases hg with(⟨_,h⟩|h)|h<;>omega
    ·rcases hg with h|h
     ·exact h
     ·exact .inr (by omega)
    ·rcases hg with(⟨_,h⟩|h)|h<;>omega
    ·rcases hg with h|h
     ·exact h
     ·exact .inr (by omega)
   clear t3 t4 pb3 j1 j2 j3 j4 j5 j6 B3 k1 cx CX JB IP a0 a1' JJ hsz
   have SN:Hid _:=ss
   clear ss
   generalize hPM:putM (kbk f m k) (sideT f k).length (f k)=PMk at *
   clear hPM kp
   go_wp2
   go_roundw
   case rel=>obtain⟨e1',e2',p1',p2',hh⟩:=NX.out;exact⟨k+1,e1',e2',p1',p2',by rw[SN.out];go_num,by go_num,by omega,hh⟩
   case measure=>simp[intOf];omega
  ·have hkk:k=n1:=by omega
   have hkn:¬((k:Int)<(n1:Int)):=by omega
   rw[hkk] at JJ
   obtain⟨j1,j2,j3,j4,j5,j6⟩:=JJ.out
   obtain⟨g0,g1⟩:=j1.two
   obtain⟨h0,h1⟩:=j5.two
   obtain⟨f0,f1⟩:=j5.free
   have FIN:Hid (∀x y,TreesF d (setR wr (w.heap.size+1) x y) (fun g=>F g∨w.heap.size<=g) (.slice e1 (kbk f m n1).1.length p1) (kbk f m n1).1/\RowF (setR wr (w.heap.size+1) x y) (fun g=>F g∨w.heap.size<=g) (.slice e2 (kbk f m n1).2.length p2) (kbk f m n1).2.length (flatI (kbk f m n1).2)/\Below w.heap.size w (setR wr (w.heap.size+1) x y)/\BoxR (setR wr (w.heap.size+1) x y) (w.heap.size+1) #[x,y]):=fun x y=>by
    have M1:∀g,(F g/\g<w.heap.size)∨w.heap.size+3<=g->F g∨w.heap.size<=g:=fun g hg=>hg.imp And.left (fun h=>by omega)
    refine⟨(j2.chg (chg_setR wr (w.heap.size+1) x y) (fun g hg e=> ?_)).mono M1,(j3.chg (chg_setR wr (w.heap.size+1) x y) (fun g hg e=> ?_)).mono M1,(j6.setCell (p:=⟨w.heap.size+1,0,none⟩) (Nat.le_succ _) x).setCell (p:=⟨w.heap.size+1,1,none⟩) (Nat.le_succ _) y,j5.set2 x y⟩
    ·rcases hg with⟨_,h⟩|h<;>omega
    ·rcases hg with⟨_,h⟩|h<;>omega
   clear j1 j2 j3 j4 j5 j6 JJ hkk
   go_wp2
   obtain⟨q1',q2',q3',q4'⟩:=FIN.out (.slice e1 (kbk f m n1).1.length p1) (.slice e2 (kbk f m n1).2.length p2)
   have Z:=q4'.two
   exact bodyPost_ret (v:= .agg #[.slice e1 (kbk f m n1).1.length p1, .slice e2 (kbk f m n1).2.length p2]) (by simp[results,Tryz.results121,go_sem,Z.1,Z.2]) rfl ⟨_,_,rfl,q1',q2',q3'⟩
end
section
open Go.RowKit

theorem giveDown1_any (d:Nat) (H:GiveI d) (F:Nat->Prop) (vt vc vb:Value) (c1 c2:Nat) (m:TM) (b:ML) (f:Int->Int × Bool) (lo hi:Int) (x:TV) (i:Nat) (u:World) (hx:TreeF d u F x (m.1.getD i noTr)) (hc:Row u vc m.2.length (flatI m.2)) (hb:Row u vb b.length (flatM b))
  (hB1:BoxR u c1 #[vt,vc]) (hB2:u.cell? ⟨c2,0,none⟩=some vb) (hB3:c2<u.heap.size) (hs:Seg d f lo hi m.2 m.1) (hm:MsIn lo hi b) (hi0:i<m.1.length) (hn:wt d (m.1.getD i noTr)+b.length<=100000) :
  Calls Tryz.prog 153 #[.int .i64 (i:Nat),x.val, .pointer (some ⟨c1,0,none⟩), .pointer (some ⟨c2,0,none⟩)] u fun e u' =>∃v1 v2,e= .returned (.agg #[v1,v2])/\TreesF d u' (fun g=>F g∨u.heap.size<=g) v1 (kidM (giveM d) m b i).1/\RowF u' (fun g=>F g∨u.heap.size<=g) v2 (kidM (giveM d) m b i).2.length (flatI (kidM (giveM d) m b i).2)/\Below u.heap.size u u' :=by
 obtain⟨r1,r2,r3,r4,s1,s2,s3,s4,hy⟩:=hx.treeAt.shape
 obtain⟨a2,q2,hvc,_⟩:=hc.len
 obtain⟨a3,q3,hvb,_⟩:=hb.len
 have hl:=hs.len
 have hat:=hs.at i hi0
 have hmi:=hm.mine hs.cuts (i:=i) (by omega)
 have hml:=mineF_length m.2 i b
 have MK:Hid (∀u1,Below u.heap.size u u1->Calls Tryz.prog 154 #[vc, .int .i64 (i:Nat),vb] u1 fun e w' =>∃v',e= .returned v' ∧w'.ownsRow u1.heap.size 38 3 v' (mineF m.2 i b).length (flatM (mineF m.2 i b))/\Below u1.heap.size u1 w'):=fun u1 hb' =>by
  have:=msgsOfKid_any vc m.2 i vb b u1 (hc.below hb') (hb.below hb') (by omega)
  rw[hs.cuts.mineK] at this
  exact this
 have GV:=hid (fun (u1:World) (v:Value) (hp:0<(mineF m.2 i b).length) (hb' :Below u.heap.size u u1) (hv:Row u1 v (mineF m.2 i b).length (flatM (mineF m.2 i b)))=>H (fun g=>F g/\g<u.heap.size) x (m.1.getD i noTr) v (mineF m.2 i b) (frC m.2 lo i) (toC m.2 hi i) u1 (hx.lt.below hb') hv hat.1 hmi hp (by omega))
 have RW:=hid (fun (u1:World) (hb' :Below u.heap.size u u1)=>rowOf_any d (fun g=>F g/\g<u.heap.size) x (m.1.getD i noTr) u1 (hx.lt.below hb'))
 have KM0:Hid (¬0<(mineF m.2 i b).length->kidM (giveM d) m b i=([m.1.getD i noTr],[])):=fun h=>by show _=_;rw[kidM,if_neg h]
 have KM1:Hid (0<(mineF m.2 i b).length->kidM (giveM d) m b i=giveM d (m.1.getD i noTr) (mineF m.2 i b)):=fun h=>by show _=_;rw[kidM,if_pos h]
 rw[hy] at GV RW ⊢
 subst hvc hvb
 have X1:Hid (BoxR ((u.alloc (.cells #[.bool (m.1.getD i noTr).leaf, .slice r1 (m.1.getD i noTr).pairs.length s1, .slice r2 (m.1.getD i noTr).cuts.length s2, .slice r3 (m.1.getD i noTr).kids.length s3, .slice r4 (m.1.getD i noTr).buf.length s4] 35)).alloc (.cells #[.slice none 0 0, .slice none 0 0] 96)) (u.heap.size+1) #[.slice none 0 0, .slice none 0 0]/\BoxT ((u.alloc (.cells #[.bool (m.1.getD i noTr).leaf, .slice r1 (m.1.getD i noTr).pairs.length s1, .slice r2 (m.1.getD i noTr).cuts.length s2, .slice r3 (m.1.getD i noTr).kids.length s3, .slice r4 (m.1.getD i noTr).buf.length s4] 35)).alloc (.cells #[.slice none 0 0, .slice none 0 0] 96)) u.heap.size #[.bool (m.1.getD i noTr).leaf, .slice r1 (m.1.getD i noTr).pairs.length s1, .slice r2 (m.1.getD i noTr).cuts.length s2, .slice r3 (m.1.getD i noTr).kids.length s3, .slice r4 (m.1.getD i noTr).buf.length s4]):=⟨by
  have:=BoxR.start (u.alloc (.cells #[.bool (m.1.getD i noTr).leaf, .slice r1 (m.1.getD i noTr).pairs.length s1, .slice r2 (m.1.getD i noTr).cuts.length s2, .slice r3 (m.1.getD i noTr).kids.length s3, .slice r4 (m.1.getD i noTr).buf.length s4] 35)) #[.slice none 0 0, .slice none 0 0]
  rw[World.size_alloc] at this
  exact this,(BoxT.start u _).step (al1 _ _)⟩
 obtain⟨y0,y1⟩:=(hB1.step (al2 u (.cells #[.bool (m.1.getD i noTr).leaf, .slice r1 (m.1.getD i noTr).pairs.length s1, .slice r2 (m.1.getD i noTr).cuts.length s2, .slice r3 (m.1.getD i noTr).kids.length s3, .slice r4 (m.1.getD i noTr).buf.length s4] 35) (.cells #[.slice none 0 0, .slice none 0 0] 96))).two
 have y2:=cell_lowB (al2 u (.cells #[.bool (m.1.getD i noTr).leaf, .slice r1 (m.1.getD i noTr).pairs.length s1, .slice r2 (m.1.getD i noTr).cuts.length s2, .slice r3 (m.1.getD i noTr).kids.length s3, .slice r4 (m.1.getD i noTr).buf.length s4] 35) (.cells #[.slice none 0 0, .slice none 0 0] 96)) hB3 hB2
 clear hx hc hb hB1 hB2 hB3 hs hm hn hl hat hmi hml hy H
 generalize kidM (giveM d) m b i=R at *
 generalize giveM d (m.1.getD i noTr) (mineF m.2 i b)=G at *
 generalize mineF m.2 i b=MI at *
 generalize m.1.getD i noTr=KD at *
 show Calls Tryz.prog 153 #[.int .i64 (i:Nat), .agg #[.bool KD.leaf, .slice r1 KD.pairs.length s1, .slice r2 KD.cuts.length s2, .slice r3 KD.kids.length s3, .slice r4 KD.buf.length s4], .pointer (some ⟨c1,0,none⟩), .pointer (some ⟨c2,0,none⟩)] u _
 have GV2:=hid (GV)
 have RW2:=hid (RW)
 clear GV RW
 generalize KD.leaf=tl at *
 generalize KD.pairs.length=z1 at *
 generalize KD.cuts.length=z2 at *
 generalize KD.kids.length=z3 at *
 generalize KD.buf.length=z4 at *
 generalize m.2.length=n2 at *
 generalize b.length=nb at *
 go_enter Tryz.func153,Tryz.ntmps153
 go_wp2_with fail
 refine Calls.mono (MK.out _ (al2 _ _ _)) ?_
 rintro e w1 ⟨v1,rfl,o1,b1⟩
 obtain⟨a1,p1,hv1,_⟩:=(Row.of_owns o1).len
 subst hv1
 have R1:Hid _:=Row.of_owns o1
 have B1:=hid (Below.and (al2 _ _ _) b1)
 have X2:=hid (X1.out.1.step b1)
 have k0:=(X1.out.2.step b1).cells
 clear o1 b1 X1 y0 y1 y2 MK
 by_cases h0:0<MI.length
 ·have KM:=KM1.out h0
  subst KM
  have hne:((MI.length:Int)==0)=false:=by rw[beq_eq_false_iff_ne];omega
  have G1:Hid _:=GV2.out w1 _ h0 B1.out R1.out
  clear KM0 KM1 RW2 R1
  generalize MI.length=nm at *
  go_wp2_with fail
  refine Calls.mono G1.out ?_
  rintro e w2 ⟨v1,v2,rfl,t1,t2,b2⟩
  obtain⟨x1,y1,hv1,_⟩:=t1.els.choose_spec.2.row.len
  obtain⟨x2,y2,hv2,_⟩:=t2.row.len
  subst hv1 hv2
  have X3:=X2.out.step b2
  obtain⟨g0,g1⟩:=X3.two
  obtain⟨f0,f1⟩:=X3.free
  have hs2:u.heap.size+2<=w1.heap.size:=by have:=X2.out.lt;omega
  have FIN:Hid (TreesF d (setR w2 (u.heap.size+1) (.slice x1 R.1.length y1) (.slice x2 R.2.length y2)) (fun g=>F g∨u.heap.size<=g) (.slice x1 R.1.length y1) R.1/\RowF (setR w2 (u.heap.size+1) (.slice x1 R.1.length y1) (.slice x2 R.2.length y2)) (fun g=>F g∨u.heap.size<=g) (.slice x2 R.2.length y2) R.2.length (flatI R.2)/\Below u.heap.size u (setR w2 (u.heap.size+1) (.slice x1 R.1.length y1) (.slice x2 R.2.length y2))/\BoxR (setR w2 (u.heap.size+1) (.slice x1 R.1.length y1) (.slice x2 R.2.length y2)) (u.heap.size+1) #[.slice x1 R.1.length y1, .slice x2 R.2.length y2]):=by
   have D:∀g,(F g/\g<u.heap.size)∨w1.heap.size<=g->¬g=u.heap.size+1:=fun g hg e=>by rcases hg with⟨_,h⟩|h<;>omega
   have M1:∀g,(F g/\g<u.heap.size)∨w1.heap.size<=g->F g∨u.heap.size<=g:=fun g hg=>hg.imp And.left (fun h=>by omega)
   exact⟨(t1.chg (chg_setR w2 (u.heap.size+1) _ _) (fun g hg=>D g hg)).mono M1,(t2.chg (chg_setR w2 (u.heap.size+1) _ _) (fun g hg=>D g hg)).mono M1,((Below.and B1.out b2).setCell (p:=⟨u.heap.size+1,0,none⟩) (Nat.le_succ _) _).setCell (p:=⟨u.heap.size+1,1,none⟩) (Nat.le_succ _) _,X3.set2 _ _⟩
  clear t1 t2 b2 X3 X2 hs2 k0
  go_wp2
  have Z:=FIN.out.2.2.2.two
  exact bodyPost_ret (v:= .agg #[.slice x1 R.1.length y1, .slice x2 R.2.length y2]) (by simp[results,Tryz.results153,go_sem,Z.1,Z.2]) rfl ⟨_,_,rfl,FIN.out.1,FIN.out.2.1,FIN.out.2.2.1⟩
 ·have KM:=KM0.out h0
  subst KM
  have hne:((MI.length:Int)==0)=true:=by rw[beq_iff_eq];omega
  have G1:Hid _:=RW2.out w1 B1.out
  clear KM0 KM1 GV2 R1
  generalize MI.length=nm at *
  go_wp2_with fail
  refine Calls.mono G1.out ?_
  rintro e w2 ⟨v1,rfl,t1,b2⟩
  obtain⟨x1,y1,hv1,_⟩:=t1.els.choose_spec.2.row.len
  subst hv1
  have X3:=X2.out.step b2
  obtain⟨g0,g1⟩:=X3.two
  obtain⟨f0,f1⟩:=X3.free
  have hs2:u.heap.size+2<=w1.heap.size:=by have:=X2.out.lt;omega
  have FIN:Hid (TreesF d (setR w2 (u.heap.size+1) (.slice x1 1 y1) (.slice none 0 0)) (fun g=>F g∨u.heap.size<=g) (.slice x1 1 y1) [KD]/\Below u.heap.size u (setR w2 (u.heap.size+1) (.slice x1 1 y1) (.slice none 0 0))/\BoxR (setR w2 (u.heap.size+1) (.slice x1 1 y1) (.slice none 0 0)) (u.heap.size+1) #[.slice x1 1 y1, .slice none 0 0]):=by
   have D:∀g,(F g/\g<u.heap.size)∨w1.heap.size<=g->¬g=u.heap.size+1:=fun g hg e=>by rcases hg with⟨_,h⟩|h<;>omega
   have M1:∀g,(F g/\g<u.heap.size)∨w1.heap.size<=g->F g∨u.heap.size<=g:=fun g hg=>hg.imp And.left (fun h=>by omega)
   exact⟨(t1.chg (chg_setR w2 (u.heap.size+1) _ _) (fun g hg=>D g hg)).mono M1,((Below.and B1.out b2).setCell (p:=⟨u.heap.size+1,0,none⟩) (Nat.le_succ _) _).setCell (p:=⟨u.heap.size+1,1,none⟩) (Nat.le_succ _) _,X3.set2 _ _⟩
  clear t1 b2 X3 X2 hs2 k0
  go_wp2
  have Z:=FIN.out.2.2.two
  exact bodyPost_ret (v:= .agg #[.slice x1 1 y1, .slice none 0 0]) (by simp[results,Tryz.results153,go_sem,Z.1,Z.2]) rfl ⟨_,_,rfl,FIN.out.1,RowF.nil _ _,FIN.out.2.1⟩
end
end Go.Proofs.YtcmofojechfccaaGreat
