/-
  The program's kidByKid, for the two functions that are handed to it.
  The program's giveDown: all messages given down, kid by kid.
  The contract of the program's giveDown.
  A scope with several labels: what holds at a jump to each, and a measure that every pass from a label lowers.
  The rounds in which messages come down; plain mathematics. A scope with two labels.
-/
import Derived.Test.YtnakaabnjelffaaGreatOfInject29
import Derived.Test.YtnakaabnjelffaaGreatOfInject33
import Derived.Scope
import Derived.WalkMore
namespace Go.Proofs.YtnakaabnjelffaaGreat
set_option maxRecDepth 100000
set_option maxHeartbeats 8000000
section
open Go.RowKit

theorem Nz (d:Nat) (F:Nat->Prop) (vt vc:Value) (c1 c2:Nat) (m:TM) (f:Nat->TM) (xs:List TV) (w:World) (hx:Els d w F xs m.1) (hr:Aj w F vt xs.length (Ap xs)) (hc:Aj w F vc m.2.length (Ab m.2))
  (hl:m.2.length+1=m.1.length) (h2:2<=m.1.length) (hf:∀i,i<m.1.length->(f i).2.length+1=(f i).1.length) (hb:∀k,k<=m.1.length->(kbk f m k).1.length<=400000) (hbf:∀k,k<m.1.length->(f k).1.length<=400000)
  (D:∀(i:Nat) (u:World),i<m.1.length->Below w.heap.size w u->Calls Tryz.prog 102 #[.int .i64 (i:Nat),(Ay xs i).val, .pointer (some ⟨c1,0,none⟩), .pointer (some ⟨c2,0,none⟩)] u fun e u' =>∃v1 v2,e= .returned (.agg #[v1,v2])/\Ad d u' (fun g=>(F g/\g<w.heap.size)∨u.heap.size<=g) v1 (f i).1/\Aj u' (fun g=>(F g/\g<w.heap.size)∨u.heap.size<=g) v2 (f i).2.length (Ab (f i).2)/\Below u.heap.size u u') :
  Calls Tryz.prog 69 #[.agg #[vt,vc], .func (.func 102) #[] #[.pointer (some ⟨c1,0,none⟩), .pointer (some ⟨c2,0,none⟩)]] w fun e w' =>∃v1 v2,e= .returned (.agg #[v1,v2])/\Ad d w' (fun g=>F g∨w.heap.size<=g) v1 (BE f m).1/\Aj w' (fun g=>F g∨w.heap.size<=g) v2 (BE f m).2.length (Ab (BE f m).2)/\Below w.heap.size w w' :=by
 have hxl:=hx.1
 obtain⟨_,b1,o1,q1,hv1,hcap1,hmax1,ha1,c0,c1,c2,c3,c4⟩:=hr.row.trees
 obtain⟨_,b2,o2,q2,hv2,hcap2,hmax2,ha2,_⟩:=hc.row.ints
 have ha1' :=ha1 (by omega)
 have ha2' :=ha2 (by omega)
 subst ha1' ha2';rw[hxl] at hv1 hcap1 c0 c1 c2 c3 c4
 have ht0:Ad d w F vt m.1:=hx.trees hr
 subst hv1 hv2;have CC:Hid (∀(i:Nat) (u:World),i<m.1.length->Below w.heap.size w u->u.cell? ⟨b1,o1+i*5,none⟩=some (.bool (Ay xs i).lf)/\u.cell? ⟨b1,o1+i*5+1,none⟩=some (Ay xs i).p/\u.cell? ⟨b1,o1+i*5+2,none⟩=some (Ay xs i).c/\u.cell? ⟨b1,o1+i*5+3,none⟩=some (Ay xs i).k/\u.cell? ⟨b1,o1+i*5+4,none⟩=some (Ay xs i).b):=fun i u hi hu=>
  ⟨Ac hu (Aa (c0 i hi)) (c0 i hi),Ac hu (Aa (c1 i hi)) (c1 i hi),Ac hu (Aa (c2 i hi)) (c2 i hi),Ac hu (Aa (c3 i hi)) (c3 i hi),Ac hu (Aa (c4 i hi)) (c4 i hi)⟩
 have SH:Hid (∀i,i<m.1.length->∃(r1 r2 r3 r4:Option Addr) (z1 z2 z3 z4 s1 s2 s3 s4:Nat) (z0:Bool),Ay xs i=⟨z0, .slice r1 z1 s1, .slice r2 z2 s2, .slice r3 z3 s3, .slice r4 z4 s4⟩):=fun i hi=>by
  obtain⟨r1,r2,r3,r4,s1,s2,s3,s4,e⟩:=(hx.2 i (by omega)).treeAt.shape
  exact⟨r1,r2,r3,r4,_,_,_,_,s1,s2,s3,s4,_,e⟩
 have DD:Hid _:=D
 have KP:Hid (∀k,k<m.1.length->Bb (kbk f m k) (AA f k).length (f k)=kbk f m (k+1)):=fun k hk=>TJ hl hk fun i hi=>hf i (by omega)
 have KL:Hid (∀k,k<=m.1.length->(kbk f m k).2.length+1=(kbk f m k).1.length):=fun k hk=>Uh hl k hk fun i hi=>hf i (by omega)
 have KA:Hid (kbk f m m.1.length=BE f m):=TI hl
 have KZ:Hid (kbk f m 0=m):=ME f m
 have HB:Hid _:=hb
 have HBF:Hid _:=hbf
 have HF:Hid _:=hf
 have KT:Hid (∀k,k<=m.1.length->2<=(kbk f m k).1.length/\(k<m.1.length->(AA f k).length<(kbk f m k).1.length)/\(AA f k).length<=400000):=fun k hk=>by
  have h3:k<=(AA f k).length:=by
   clear DD D HB hb KA KP KL;induction k with
   |zero=>exact Nat.zero_le _
   |succ k ih=>
    have:=ih (by omega)
    have:=hf k (by omega)
    rw[AA,List.length_append]
    omega
  have h4:(kbk f m k).1.length=(AA f k).length+(m.1.length-k):=by simp[kbk]
  have:=hb k hk
  omega
 have SS:Hid (∀k,(AA f (k+1)).length=(AA f k).length+(f k).1.length):=fun k=>by show _=_;rw[AA,List.length_append]
 have J0:Hid (∃(e1 e2:Option Addr) (p1 p2:Nat),Ai (((w.alloc (.cells #[.slice (some ⟨b1,o1,none⟩) m.1.length q1, .slice (some ⟨b2,o2,none⟩) m.2.length q2] 52)).alloc (.cells #[.slice none 0 0, .slice none 0 0] 52)).alloc (.cells #[.slice (some ⟨b1,o1,none⟩) m.1.length q1, .slice (some ⟨b2,o2,none⟩) m.2.length q2] 52)) (w.heap.size+2) #[.slice e1 (kbk f m 0).1.length p1, .slice e2 (kbk f m 0).2.length p2]/\Ad d (((w.alloc (.cells #[.slice (some ⟨b1,o1,none⟩) m.1.length q1, .slice (some ⟨b2,o2,none⟩) m.2.length q2] 52)).alloc (.cells #[.slice none 0 0, .slice none 0 0] 52)).alloc (.cells #[.slice (some ⟨b1,o1,none⟩) m.1.length q1, .slice (some ⟨b2,o2,none⟩) m.2.length q2] 52)) (fun g=>(F g/\g<w.heap.size)∨w.heap.size+3<=g) (.slice e1 (kbk f m 0).1.length p1) (kbk f m 0).1/\Aj (((w.alloc (.cells #[.slice (some ⟨b1,o1,none⟩) m.1.length q1, .slice (some ⟨b2,o2,none⟩) m.2.length q2] 52)).alloc (.cells #[.slice none 0 0, .slice none 0 0] 52)).alloc (.cells #[.slice (some ⟨b1,o1,none⟩) m.1.length q1, .slice (some ⟨b2,o2,none⟩) m.2.length q2] 52)) (fun g=>(F g/\g<w.heap.size)∨w.heap.size+3<=g) (.slice e2 (kbk f m 0).2.length p2) (kbk f m 0).2.length (Ab (kbk f m 0).2)/\Ai (((w.alloc (.cells #[.slice (some ⟨b1,o1,none⟩) m.1.length q1, .slice (some ⟨b2,o2,none⟩) m.2.length q2] 52)).alloc (.cells #[.slice none 0 0, .slice none 0 0] 52)).alloc (.cells #[.slice (some ⟨b1,o1,none⟩) m.1.length q1, .slice (some ⟨b2,o2,none⟩) m.2.length q2] 52)) w.heap.size #[.slice (some ⟨b1,o1,none⟩) m.1.length q1, .slice (some ⟨b2,o2,none⟩) m.2.length q2]/\Ai (((w.alloc (.cells #[.slice (some ⟨b1,o1,none⟩) m.1.length q1, .slice (some ⟨b2,o2,none⟩) m.2.length q2] 52)).alloc (.cells #[.slice none 0 0, .slice none 0 0] 52)).alloc (.cells #[.slice (some ⟨b1,o1,none⟩) m.1.length q1, .slice (some ⟨b2,o2,none⟩) m.2.length q2] 52)) (w.heap.size+1) #[.slice none 0 0, .slice none 0 0]/\Below w.heap.size w (((w.alloc (.cells #[.slice (some ⟨b1,o1,none⟩) m.1.length q1, .slice (some ⟨b2,o2,none⟩) m.2.length q2] 52)).alloc (.cells #[.slice none 0 0, .slice none 0 0] 52)).alloc (.cells #[.slice (some ⟨b1,o1,none⟩) m.1.length q1, .slice (some ⟨b2,o2,none⟩) m.2.length q2] 52))):=by
  refine⟨some ⟨b1,o1,none⟩,some ⟨b2,o2,none⟩,q1,q2, ?_⟩
  rw[KZ.out]
  refine⟨?_,(ht0.lt.below (al3 _ _ _ _)).mono (fun g hg=> .inl hg),((hc.lt (Ch _).2).below (al3 _ _ _ _)).mono (fun g hg=> .inl hg),((Ai.start w _).step (al1 _ _)).step (al1 _ _), ?_,al3 _ _ _ _⟩
  ·have:=Ai.start ((w.alloc (.cells #[.slice (some ⟨b1,o1,none⟩) m.1.length q1, .slice (some ⟨b2,o2,none⟩) m.2.length q2] 52)).alloc (.cells #[.slice none 0 0, .slice none 0 0] 52)) #[.slice (some ⟨b1,o1,none⟩) m.1.length q1, .slice (some ⟨b2,o2,none⟩) m.2.length q2]
   rw[World.size_alloc,World.size_alloc] at this
   exact this
  ·have:=(Ai.start (w.alloc (.cells #[.slice (some ⟨b1,o1,none⟩) m.1.length q1, .slice (some ⟨b2,o2,none⟩) m.2.length q2] 52)) #[.slice none 0 0, .slice none 0 0]).step (al1 _ (.cells #[.slice (some ⟨b1,o1,none⟩) m.1.length q1, .slice (some ⟨b2,o2,none⟩) m.2.length q2] 52))
   rw[World.size_alloc] at this
   exact this
 clear hx hr hc ht0 c0 c1 c2 c3 c4 D hb hbf hf ha1 ha2;generalize hn1:m.1.length=n1 at *
 generalize hn2:m.2.length=n2 at *
 clear hn1 hn2;rw[←KA.out]
 unfold maxLen at hmax1 hmax2;go_enter Tryz.func69,Tryz.ntmps69
 go_wp2;go_loopw [6,14] (fun at_ ix wr=>∃(k:Nat) (e1 e2:Option Addr) (p1 p2:Nat),at_= .int .i64 ((AA f k).length:Nat)/\ix= .int .i64 k/\k<=n1/\Hid (Ai wr (w.heap.size+2) #[.slice e1 (kbk f m k).1.length p1, .slice e2 (kbk f m k).2.length p2]/\Ad d wr (fun g=>(F g/\g<w.heap.size)∨w.heap.size+3<=g) (.slice e1 (kbk f m k).1.length p1) (kbk f m k).1/\Aj wr (fun g=>(F g/\g<w.heap.size)∨w.heap.size+3<=g) (.slice e2 (kbk f m k).2.length p2) (kbk f m k).2.length (Ab (kbk f m k).2)/\Ai wr w.heap.size #[.slice (some ⟨b1,o1,none⟩) n1 q1, .slice (some ⟨b2,o2,none⟩) n2 q2]/\Ai wr (w.heap.size+1) #[.slice none 0 0, .slice none 0 0]/\Below w.heap.size w wr))
  (fun _ ix _=>n1-(intOf ix).toNat)
 case atStart=>obtain⟨e1,e2,p1,p2,h⟩:=J0.out;exact⟨0,e1,e2,p1,p2,rfl,rfl,Nat.zero_le _,h⟩
 case round=>
  obtain⟨k,e1,e2,p1,p2,rfl,rfl,hk,JJ⟩:=hrel
  clear J0;obtain⟨j1,j2,j3,j4,j5,j6⟩:=JJ.out
  by_cases hlt:k<n1
  ·obtain⟨d0,d1,d2,d3,d4⟩:=CC.out k wr hlt j6
   obtain⟨r1,r2,r3,r4,z1,z2,z3,z4,s1,s2,s3,s4,z0,hy⟩:=SH.out k hlt
   have D1:=DD.out k (wr.alloc (.cells #[.bool (Ay xs k).lf,(Ay xs k).p,(Ay xs k).c,(Ay xs k).k,(Ay xs k).b] 29)) hlt (Below.and j6 (al1 _ _))
   rw[hy] at d0 d1 d2 d3 d4 D1
   simp only at d0 d1 d2 d3 d4
   dsimp only at D1
   have D2:Hid _:=D1
   obtain⟨kt1,kt2,kt3⟩:=KT.out k hk
   have kt4:=kt2 hlt
   have ss:=SS.out k
   have hbf:=HBF.out k hlt
   have hff:=HF.out k hlt
   have kp:=KP.out k hlt
   have kl:=KL.out k hk
   have hbk:=HB.out k hk
   have hk0:(0:Int)<=(k:Int):=by omega
   have hkn:(k:Int)<(n1:Int):=by omega
   clear D1 hy j1 j2 j3 j4 j5 j6 kt2;go_wp2_with fail;refine Calls.mono D2.out ?_
   rintro e w1 ⟨v1,v2,rfl,t1,t2,pb⟩
   obtain⟨x1,y1,hv1,_⟩:=t1.els.choose_spec.2.row.len
   obtain⟨x2,y2,hv2,_⟩:=t2.row.len
   subst hv1 hv2;have B1:Below wr.heap.size wr (w1.alloc (.cells #[.slice x1 (f k).1.length y1, .slice x2 (f k).2.length y2] 52)):=Below.and (Below.and (al1 _ _) pb) (al1 _ _)
   have hs3:w.heap.size+3<=wr.heap.size:=by have:=JJ.out.1.lt;omega
   have hw1:wr.heap.size+1<=w1.heap.size:=by have:=pb.size;simpa using this
   have M1:∀g,(F g/\g<w.heap.size)∨(wr.alloc (.cells #[.bool z0, .slice r1 z1 s1, .slice r2 z2 s2, .slice r3 z3 s3, .slice r4 z4 s4] 29)).heap.size<=g->(F g/\g<w.heap.size)∨w.heap.size+3<=g:=fun g hg=>hg.imp id fun h=>by simp at h;omega
   obtain⟨j1,j2,j3,j4,j5,j6⟩:=JJ.out
   have IP:Hid _:=GN d (fun g=>(F g/\g<w.heap.size)∨w.heap.size+3<=g) (.slice e1 (kbk f m k).1.length p1) (.slice e2 (kbk f m k).2.length p2) (.slice x1 (f k).1.length y1) (.slice x2 (f k).2.length y2) (kbk f m k) (f k) (AA f k).length (w1.alloc (.cells #[.slice x1 (f k).1.length y1, .slice x2 (f k).2.length y2] 52)) (j2.below B1) (j3.below B1) ((t1.mono M1).below (al1 _ _)) ((t2.mono M1).below (al1 _ _)) kl kt1 kt4 (by omega) (by omega) (by omega)
   obtain⟨a0,a1'⟩:=(j1.step B1).two
   have JB:Hid (Below wr.heap.size wr (w1.alloc (.cells #[.slice x1 (f k).1.length y1, .slice x2 (f k).2.length y2] 52))):=B1
   have CBX:=Ai.start w1 #[.slice x1 (f k).1.length y1, .slice x2 (f k).2.length y2]
   have CX:Hid _:=CBX
   clear t1 t2 pb B1 M1 j1 j2 j3 j4 j5 j6 D2 d0 d1 d2 d3 d4 CBX;go_wp2_with fail;refine Calls.mono IP.out ?_
   rintro e w3 ⟨v3,v4,rfl,t3,t4,pb3⟩
   obtain⟨x3,y3,hv3,_⟩:=t3.els.choose_spec.2.row.len
   obtain⟨x4,y4,hv4,_⟩:=t4.row.len
   subst hv3 hv4;obtain⟨j1,j2,j3,j4,j5,j6⟩:=JJ.out
   have B3:=Below.and JB.out pb3
   have k1:=j1.step B3
   obtain⟨g0,g1⟩:=k1.two
   obtain⟨f0,f1⟩:=k1.free
   have cx:Ai w3 w1.heap.size #[.slice x1 (f k).1.length y1, .slice x2 (f k).2.length y2]:=Ai.step CX.out pb3
   obtain⟨h0,h1⟩:=(cx.setR (L:=w.heap.size+2) (.slice x3 (Bb (kbk f m k) (AA f k).length (f k)).1.length y3) (.slice x4 (Bb (kbk f m k) (AA f k).length (f k)).2.length y4) (by omega)).two
   have hsz:wr.heap.size<=(w1.alloc (.cells #[.slice x1 (f k).1.length y1, .slice x2 (f k).2.length y2] 52)).heap.size:=JB.out.size
   have NX:Hid (∃(e1 e2:Option Addr) (p1 p2:Nat),Ai (setR w3 (w.heap.size+2) (.slice x3 (Bb (kbk f m k) (AA f k).length (f k)).1.length y3) (.slice x4 (Bb (kbk f m k) (AA f k).length (f k)).2.length y4)) (w.heap.size+2) #[.slice e1 (kbk f m (k+1)).1.length p1, .slice e2 (kbk f m (k+1)).2.length p2]/\Ad d (setR w3 (w.heap.size+2) (.slice x3 (Bb (kbk f m k) (AA f k).length (f k)).1.length y3) (.slice x4 (Bb (kbk f m k) (AA f k).length (f k)).2.length y4)) (fun g=>(F g/\g<w.heap.size)∨w.heap.size+3<=g) (.slice e1 (kbk f m (k+1)).1.length p1) (kbk f m (k+1)).1/\Aj (setR w3 (w.heap.size+2) (.slice x3 (Bb (kbk f m k) (AA f k).length (f k)).1.length y3) (.slice x4 (Bb (kbk f m k) (AA f k).length (f k)).2.length y4)) (fun g=>(F g/\g<w.heap.size)∨w.heap.size+3<=g) (.slice e2 (kbk f m (k+1)).2.length p2) (kbk f m (k+1)).2.length (Ab (kbk f m (k+1)).2)/\Ai (setR w3 (w.heap.size+2) (.slice x3 (Bb (kbk f m k) (AA f k).length (f k)).1.length y3) (.slice x4 (Bb (kbk f m k) (AA f k).length (f k)).2.length y4)) w.heap.size #[.slice (some ⟨b1,o1,none⟩) n1 q1, .slice (some ⟨b2,o2,none⟩) n2 q2]/\Ai (setR w3 (w.heap.size+2) (.slice x3 (Bb (kbk f m k) (AA f k).length (f k)).1.length y3) (.slice x4 (Bb (kbk f m k) (AA f k).length (f k)).2.length y4)) (w.heap.size+1) #[.slice none 0 0, .slice none 0 0]/\Below w.heap.size w (setR w3 (w.heap.size+2) (.slice x3 (Bb (kbk f m k) (AA f k).length (f k)).1.length y3) (.slice x4 (Bb (kbk f m k) (AA f k).length (f k)).2.length y4))):=by
    rw[←kp]
    refine⟨x3,x4,y3,y4,k1.set2 _ _,(t3.chg (Av w3 (w.heap.size+2) _ _) (fun g hg e=> ?_)).mono (fun g hg=> ?_),(t4.chg (Av w3 (w.heap.size+2) _ _) (fun g hg e=> ?_)).mono (fun g hg=> ?_),(j4.step B3).setR _ _ (by omega),(j5.step B3).setR _ _ (by omega),((Below.and j6 B3).setCell (p:=⟨w.heap.size+2,0,none⟩) (Nat.le_add_right _ _) _).setCell (p:=⟨w.heap.size+2,1,none⟩) (Nat.le_add_right _ _) _⟩
    ·rcases hg with(⟨_,h⟩|h)|h<;>omega
    ·rcases hg with h|h
     ·exact h
     ·exact .inr (by omega)
    ·rcases hg with(⟨_,h⟩|h)|h<;>omega
    ·rcases hg with h|h
     ·exact h
     ·exact .inr (by omega)
   clear t3 t4 pb3 j1 j2 j3 j4 j5 j6 B3 k1 cx CX JB IP a0 a1' JJ hsz;have SN:Hid _:=ss
   clear ss;generalize hPM:Bb (kbk f m k) (AA f k).length (f k)=PMk at *
   clear hPM kp;go_wp2;go_roundw
   case rel=>obtain⟨e1',e2',p1',p2',hh⟩:=NX.out;exact⟨k+1,e1',e2',p1',p2',by rw[SN.out];go_num,by go_num,by omega,hh⟩
   case measure=>simp[intOf];omega
  ·have hkk:k=n1:=by omega
   have hkn:¬((k:Int)<(n1:Int)):=by omega
   rw[hkk] at JJ
   obtain⟨j1,j2,j3,j4,j5,j6⟩:=JJ.out
   obtain⟨g0,g1⟩:=j1.two
   obtain⟨h0,h1⟩:=j5.two
   obtain⟨f0,f1⟩:=j5.free
   have FIN:Hid (∀x y,Ad d (setR wr (w.heap.size+1) x y) (fun g=>F g∨w.heap.size<=g) (.slice e1 (kbk f m n1).1.length p1) (kbk f m n1).1/\Aj (setR wr (w.heap.size+1) x y) (fun g=>F g∨w.heap.size<=g) (.slice e2 (kbk f m n1).2.length p2) (kbk f m n1).2.length (Ab (kbk f m n1).2)/\Below w.heap.size w (setR wr (w.heap.size+1) x y)/\Ai (setR wr (w.heap.size+1) x y) (w.heap.size+1) #[x,y]):=fun x y=>by
    have M1:∀g,(F g/\g<w.heap.size)∨w.heap.size+3<=g->F g∨w.heap.size<=g:=fun g hg=>hg.imp And.left (fun h=>by omega)
    refine⟨(j2.chg (Av wr (w.heap.size+1) x y) (fun g hg e=> ?_)).mono M1,(j3.chg (Av wr (w.heap.size+1) x y) (fun g hg e=> ?_)).mono M1,(j6.setCell (p:=⟨w.heap.size+1,0,none⟩) (Nat.le_succ _) x).setCell (p:=⟨w.heap.size+1,1,none⟩) (Nat.le_succ _) y,j5.set2 x y⟩
    ·rcases hg with⟨_,h⟩|h<;>omega
    ·rcases hg with⟨_,h⟩|h<;>omega
   clear j1 j2 j3 j4 j5 j6 JJ hkk;go_wp2;obtain⟨q1',q2',q3',q4'⟩:=FIN.out (.slice e1 (kbk f m n1).1.length p1) (.slice e2 (kbk f m n1).2.length p2)
   have Z:=q4'.two
   exact bodyPost_ret (v:= .agg #[.slice e1 (kbk f m n1).1.length p1, .slice e2 (kbk f m n1).2.length p2]) (by simp[results,Tryz.results69,go_sem,Z.1,Z.2]) rfl ⟨_,_,rfl,q1',q2',q3'⟩
end
section
open Go.RowKit

theorem NR (d:Nat) (H:Oy d) (F:Nat->Prop) (vt vc vb:Value) (c1 c2:Nat) (m:TM) (b:ML) (f:Int->Int × Bool) (lo hi:Int) (x:TV) (i:Nat) (u:World) (hx:Aq d u F x (m.1.getD i Ah)) (hc:Row u vc m.2.length (Ab m.2)) (hb:Row u vb b.length (Al b))
  (hB1:Ai u c1 #[vt,vc]) (hB2:u.cell? ⟨c2,0,none⟩=some vb) (hB3:c2<u.heap.size) (hs:Seg d f lo hi m.2 m.1) (hm:ES lo hi b) (hi0:i<m.1.length) (hn:wt d (m.1.getD i Ah)+b.length<=100000) :
  Calls Tryz.prog 102 #[.int .i64 (i:Nat),x.val, .pointer (some ⟨c1,0,none⟩), .pointer (some ⟨c2,0,none⟩)] u fun e u' =>∃v1 v2,e= .returned (.agg #[v1,v2])/\Ad d u' (fun g=>F g∨u.heap.size<=g) v1 (Cv (Ae d) m b i).1/\Aj u' (fun g=>F g∨u.heap.size<=g) v2 (Cv (Ae d) m b i).2.length (Ab (Cv (Ae d) m b i).2)/\Below u.heap.size u u' :=by
 obtain⟨r1,r2,r3,r4,s1,s2,s3,s4,hy⟩:=hx.treeAt.shape
 obtain⟨a2,q2,hvc,_⟩:=hc.len
 obtain⟨a3,q3,hvb,_⟩:=hb.len
 have hl:=hs.len
 have hat:=hs.at i hi0
 have hmi:=hm.mine hs.cuts (i:=i) (by omega)
 have hml:=Cy m.2 i b
 have MK:Hid (∀u1,Below u.heap.size u u1->Calls Tryz.prog 75 #[vc, .int .i64 (i:Nat),vb] u1 fun e w' =>∃v',e= .returned v' ∧w'.ownsRow u1.heap.size 31 3 v' (Ar m.2 i b).length (Al (Ar m.2 i b))/\Below u1.heap.size u1 w'):=fun u1 hb' =>by
  have:=GJ vc m.2 i vb b u1 (hc.below hb') (hb.below hb') (by omega)
  rw[hs.cuts.mineK] at this
  exact this
 have GV:=hid (fun (u1:World) (v:Value) (hp:0<(Ar m.2 i b).length) (hb' :Below u.heap.size u u1) (hv:Row u1 v (Ar m.2 i b).length (Al (Ar m.2 i b)))=>H (fun g=>F g/\g<u.heap.size) x (m.1.getD i Ah) v (Ar m.2 i b) (frC m.2 lo i) (toC m.2 hi i) u1 (hx.lt.below hb') hv hat.1 hmi hp (by omega))
 have RW:=hid (fun (u1:World) (hb' :Below u.heap.size u u1)=>GR d (fun g=>F g/\g<u.heap.size) x (m.1.getD i Ah) u1 (hx.lt.below hb'))
 have KM0:Hid (¬0<(Ar m.2 i b).length->Cv (Ae d) m b i=([m.1.getD i Ah],[])):=fun h=>by show _=_;rw[Cv,if_neg h]
 have KM1:Hid (0<(Ar m.2 i b).length->Cv (Ae d) m b i=Ae d (m.1.getD i Ah) (Ar m.2 i b)):=fun h=>by show _=_;rw[Cv,if_pos h]
 rw[hy] at GV RW ⊢
 subst hvc hvb;have X1:Hid (Ai ((u.alloc (.cells #[.bool (m.1.getD i Ah).leaf, .slice r1 (m.1.getD i Ah).pairs.length s1, .slice r2 (m.1.getD i Ah).cuts.length s2, .slice r3 (m.1.getD i Ah).kids.length s3, .slice r4 (m.1.getD i Ah).buf.length s4] 29)).alloc (.cells #[.slice none 0 0, .slice none 0 0] 52)) (u.heap.size+1) #[.slice none 0 0, .slice none 0 0]/\CF ((u.alloc (.cells #[.bool (m.1.getD i Ah).leaf, .slice r1 (m.1.getD i Ah).pairs.length s1, .slice r2 (m.1.getD i Ah).cuts.length s2, .slice r3 (m.1.getD i Ah).kids.length s3, .slice r4 (m.1.getD i Ah).buf.length s4] 29)).alloc (.cells #[.slice none 0 0, .slice none 0 0] 52)) u.heap.size #[.bool (m.1.getD i Ah).leaf, .slice r1 (m.1.getD i Ah).pairs.length s1, .slice r2 (m.1.getD i Ah).cuts.length s2, .slice r3 (m.1.getD i Ah).kids.length s3, .slice r4 (m.1.getD i Ah).buf.length s4]):=⟨by
  have:=Ai.start (u.alloc (.cells #[.bool (m.1.getD i Ah).leaf, .slice r1 (m.1.getD i Ah).pairs.length s1, .slice r2 (m.1.getD i Ah).cuts.length s2, .slice r3 (m.1.getD i Ah).kids.length s3, .slice r4 (m.1.getD i Ah).buf.length s4] 29)) #[.slice none 0 0, .slice none 0 0]
  rw[World.size_alloc] at this
  exact this,(CF.start u _).step (al1 _ _)⟩
 obtain⟨y0,y1⟩:=(hB1.step (al2 u (.cells #[.bool (m.1.getD i Ah).leaf, .slice r1 (m.1.getD i Ah).pairs.length s1, .slice r2 (m.1.getD i Ah).cuts.length s2, .slice r3 (m.1.getD i Ah).kids.length s3, .slice r4 (m.1.getD i Ah).buf.length s4] 29) (.cells #[.slice none 0 0, .slice none 0 0] 52))).two
 have y2:=Ac (al2 u (.cells #[.bool (m.1.getD i Ah).leaf, .slice r1 (m.1.getD i Ah).pairs.length s1, .slice r2 (m.1.getD i Ah).cuts.length s2, .slice r3 (m.1.getD i Ah).kids.length s3, .slice r4 (m.1.getD i Ah).buf.length s4] 29) (.cells #[.slice none 0 0, .slice none 0 0] 52)) hB3 hB2
 clear hx hc hb hB1 hB2 hB3 hs hm hn hl hat hmi hml hy H;generalize Cv (Ae d) m b i=R at *
 generalize Ae d (m.1.getD i Ah) (Ar m.2 i b)=G at *
 generalize Ar m.2 i b=MI at *
 generalize m.1.getD i Ah=KD at *
 show Calls Tryz.prog 102 #[.int .i64 (i:Nat), .agg #[.bool KD.leaf, .slice r1 KD.pairs.length s1, .slice r2 KD.cuts.length s2, .slice r3 KD.kids.length s3, .slice r4 KD.buf.length s4], .pointer (some ⟨c1,0,none⟩), .pointer (some ⟨c2,0,none⟩)] u _
 have GV2:=hid (GV)
 have RW2:=hid (RW)
 clear GV RW;generalize KD.leaf=tl at *
 generalize KD.pairs.length=z1 at *
 generalize KD.cuts.length=z2 at *
 generalize KD.kids.length=z3 at *
 generalize KD.buf.length=z4 at *
 generalize m.2.length=n2 at *
 generalize b.length=nb at *
 go_enter Tryz.func102,Tryz.ntmps102
 go_wp2_with fail;refine Calls.mono (MK.out _ (al2 _ _ _)) ?_
 rintro e w1 ⟨v1,rfl,o1,b1⟩
 obtain⟨a1,p1,hv1,_⟩:=(Row.of_owns o1).len
 subst hv1;have R1:Hid _:=Row.of_owns o1
 have B1:=hid (Below.and (al2 _ _ _) b1)
 have X2:=hid (X1.out.1.step b1)
 have k0:=(X1.out.2.step b1).cells
 clear o1 b1 X1 y0 y1 y2 MK;by_cases h0:0<MI.length
 ·have KM:=KM1.out h0
  subst KM;have hne:((MI.length:Int)==0)=false:=by rw[beq_eq_false_iff_ne];omega
  have G1:Hid _:=GV2.out w1 _ h0 B1.out R1.out
  clear KM0 KM1 RW2 R1;generalize MI.length=nm at *
  go_wp2_with fail;refine Calls.mono G1.out ?_
  rintro e w2 ⟨v1,v2,rfl,t1,t2,b2⟩
  obtain⟨x1,y1,hv1,_⟩:=t1.els.choose_spec.2.row.len
  obtain⟨x2,y2,hv2,_⟩:=t2.row.len
  subst hv1 hv2;have X3:=X2.out.step b2
  obtain⟨g0,g1⟩:=X3.two
  obtain⟨f0,f1⟩:=X3.free
  have hs2:u.heap.size+2<=w1.heap.size:=by have:=X2.out.lt;omega
  have FIN:Hid (Ad d (setR w2 (u.heap.size+1) (.slice x1 R.1.length y1) (.slice x2 R.2.length y2)) (fun g=>F g∨u.heap.size<=g) (.slice x1 R.1.length y1) R.1/\Aj (setR w2 (u.heap.size+1) (.slice x1 R.1.length y1) (.slice x2 R.2.length y2)) (fun g=>F g∨u.heap.size<=g) (.slice x2 R.2.length y2) R.2.length (Ab R.2)/\Below u.heap.size u (setR w2 (u.heap.size+1) (.slice x1 R.1.length y1) (.slice x2 R.2.length y2))/\Ai (setR w2 (u.heap.size+1) (.slice x1 R.1.length y1) (.slice x2 R.2.length y2)) (u.heap.size+1) #[.slice x1 R.1.length y1, .slice x2 R.2.length y2]):=by
   have D:∀g,(F g/\g<u.heap.size)∨w1.heap.size<=g->¬g=u.heap.size+1:=fun g hg e=>by rcases hg with⟨_,h⟩|h<;>omega
   have M1:∀g,(F g/\g<u.heap.size)∨w1.heap.size<=g->F g∨u.heap.size<=g:=fun g hg=>hg.imp And.left (fun h=>by omega)
   exact⟨(t1.chg (Av w2 (u.heap.size+1) _ _) (fun g hg=>D g hg)).mono M1,(t2.chg (Av w2 (u.heap.size+1) _ _) (fun g hg=>D g hg)).mono M1,((Below.and B1.out b2).setCell (p:=⟨u.heap.size+1,0,none⟩) (Nat.le_succ _) _).setCell (p:=⟨u.heap.size+1,1,none⟩) (Nat.le_succ _) _,X3.set2 _ _⟩
  clear t1 t2 b2 X3 X2 hs2 k0;go_wp2;have Z:=FIN.out.2.2.2.two
  exact bodyPost_ret (v:= .agg #[.slice x1 R.1.length y1, .slice x2 R.2.length y2]) (by simp[results,Tryz.results102,go_sem,Z.1,Z.2]) rfl ⟨_,_,rfl,FIN.out.1,FIN.out.2.1,FIN.out.2.2.1⟩
 ·have KM:=KM0.out h0
  subst KM;have hne:((MI.length:Int)==0)=true:=by rw[beq_iff_eq];omega
  have G1:Hid _:=RW2.out w1 B1.out
  clear KM0 KM1 GV2 R1;generalize MI.length=nm at *
  go_wp2_with fail;refine Calls.mono G1.out ?_
  rintro e w2 ⟨v1,rfl,t1,b2⟩
  obtain⟨x1,y1,hv1,_⟩:=t1.els.choose_spec.2.row.len
  subst hv1;have X3:=X2.out.step b2
  obtain⟨g0,g1⟩:=X3.two
  obtain⟨f0,f1⟩:=X3.free
  have hs2:u.heap.size+2<=w1.heap.size:=by have:=X2.out.lt;omega
  have FIN:Hid (Ad d (setR w2 (u.heap.size+1) (.slice x1 1 y1) (.slice none 0 0)) (fun g=>F g∨u.heap.size<=g) (.slice x1 1 y1) [KD]/\Below u.heap.size u (setR w2 (u.heap.size+1) (.slice x1 1 y1) (.slice none 0 0))/\Ai (setR w2 (u.heap.size+1) (.slice x1 1 y1) (.slice none 0 0)) (u.heap.size+1) #[.slice x1 1 y1, .slice none 0 0]):=by
   have D:∀g,(F g/\g<u.heap.size)∨w1.heap.size<=g->¬g=u.heap.size+1:=fun g hg e=>by rcases hg with⟨_,h⟩|h<;>omega
   have M1:∀g,(F g/\g<u.heap.size)∨w1.heap.size<=g->F g∨u.heap.size<=g:=fun g hg=>hg.imp And.left (fun h=>by omega)
   exact⟨(t1.chg (Av w2 (u.heap.size+1) _ _) (fun g hg=>D g hg)).mono M1,((Below.and B1.out b2).setCell (p:=⟨u.heap.size+1,0,none⟩) (Nat.le_succ _) _).setCell (p:=⟨u.heap.size+1,1,none⟩) (Nat.le_succ _) _,X3.set2 _ _⟩
  clear t1 b2 X3 X2 hs2 k0;go_wp2;have Z:=FIN.out.2.2.two
  exact bodyPost_ret (v:= .agg #[.slice x1 1 y1, .slice none 0 0]) (by simp[results,Tryz.results102,go_sem,Z.1,Z.2]) rfl ⟨_,_,rfl,FIN.out.1,Aj.nil _ _,FIN.out.2.1⟩
end
section
open Go.RowKit

theorem GQ {d:Nat} {t:Tr}:∀ {l:List Tr},t∈l->wt d t<=wtL d l
 |a::l,h=>by
  rw[Ic]
  rcases List.mem_cons.1 h with rfl|h
  ·omega
  ·have:=GQ (d:=d) h
   omega
theorem NV {d:Nat} {m:TM} (hok:MOk d m) (f:Nat->TM) (a:Nat->Nat) (hf:∀i,i<m.1.length->MOk d (f i)/\wtL d (f i).1<=wt d (m.1.getD i Ah)+a i) {N:Nat} (hN:wtL d m.1+((List.range m.1.length).map a).sum<=N):∀k,k<=m.1.length->(kbk f m k).1.length<=2*N:=by
 intro k hk;obtain⟨s1,s2,s3,s4⟩:=Lw f a hf k hk
 have h1:=AY s1
 have h2:=AY hok.2
 have h3:wtL d (m.1.take k)<=wtL d m.1:=by
  have:=Dg d (m.1.take k) (m.1.drop k)
  rw[List.take_append_drop] at this
  omega
 have h4:((List.range k).map a).sum<=((List.range m.1.length).map a).sum:=by
  have key:∀j,((List.range k).map a).sum<=((List.range (k+j)).map a).sum:=by
   intro j;induction j with
   |zero=>exact Nat.le_refl _
   |succ j ih=>
    rw[←Nat.add_assoc,List.range_succ,List.map_append,List.sum_append]
    omega
  have:=key (m.1.length-k)
  rw[show k+(m.1.length-k)=m.1.length by omega] at this
  exact this
 have h5:(kbk f m k).1.length=(AA f k).length+(m.1.length-k):=by simp[kbk]
 omega

theorem JW (d:Nat) (H:Oy d) (F:Nat->Prop) (vt vc vb:Value) (m:TM) (b:ML) (f:Int->Int × Bool) (lo hi:Int) (w:World) (ht:Ad d w F vt m.1) (hc:Aj w F vc m.2.length (Ab m.2)) (hb:Row w vb b.length (Al b))
  (hs:Seg d f lo hi m.2 m.1) (hm:ES lo hi b) (h2:2<=m.1.length) (hok:MOk d m) (hn:wtL d m.1+b.length<=100000) :
  Calls Tryz.prog 67 #[.agg #[vt,vc],vb] w fun e w' =>∃v1 v2,e= .returned (.agg #[v1,v2])/\Ad d w' (fun g=>F g∨w.heap.size<=g) v1 (Ba (Ae d) m b).1/\Aj w' (fun g=>F g∨w.heap.size<=g) v2 (Ba (Ae d) m b).2.length (Ab (Ba (Ae d) m b).2)/\Below w.heap.size w w' :=by
 obtain⟨xs,ex,rx⟩:=ht.els
 obtain⟨a1,q1,hvt,_⟩:=rx.row.len
 obtain⟨a2,q2,hvc,_⟩:=hc.row.len
 obtain⟨a3,q3,hvb,_⟩:=hb.len
 subst hvt hvc hvb;have hkm:=Lx (Bh d) hok b
 have hsum:=Ft m.2 b m.1.length
 have hsl:=Ji m.2 b m.1.length
 have W3:Hid (∀W,Below w.heap.size w W->Ai W w.heap.size #[.slice a1 m.1.length q1, .slice a2 m.2.length q2]->W.cell? ⟨w.heap.size+1,0,none⟩=some (.slice a3 b.length q3)->w.heap.size+3<=W.heap.size→
   Calls Tryz.prog 69 #[.agg #[.slice a1 m.1.length q1, .slice a2 m.2.length q2], .func (.func 102) #[] #[.pointer (some ⟨w.heap.size,0,none⟩), .pointer (some ⟨w.heap.size+1,0,none⟩)]] W fun e w' =>∃v1 v2,e= .returned (.agg #[v1,v2])/\Ad d w' (fun g=>(F g/\g<w.heap.size)∨W.heap.size<=g) v1 (Ba (Ae d) m b).1/\Aj w' (fun g=>(F g/\g<w.heap.size)∨W.heap.size<=g) v2 (Ba (Ae d) m b).2.length (Ab (Ba (Ae d) m b).2)/\Below W.heap.size W w'):=fun W bW BX BC hsz=>by
  have rx' :=(rx.lt (by rw[←ex.1];exact(Ij xs).2)).below bW
  rw[←ex.1] at rx'
  have:=Nz d (fun g=>F g/\g<w.heap.size) (.slice a1 xs.length q1) (.slice a2 m.2.length q2) w.heap.size (w.heap.size+1) m (Cv (Ae d) m b) xs W ⟨ex.1,fun i hi=>(ex.2 i hi).lt.below bW⟩ rx' ((hc.lt (Ch _).2).below bW) hs.len h2 (fun i hi=>(hkm i hi).1.1) (fun k hk=>by have:=NV hok (Cv (Ae d) m b) (fun i=>(Ar m.2 i b).length) hkm (N:=100000) (by rw[hsum];omega) k hk;omega) (fun k hk=>by
    have h1:=AY (hkm k hk).1.2
    have h3:=(hkm k hk).2
    have h4:=Cy m.2 k b
    have h5:wt d (m.1.getD k Ah)<=wtL d m.1:=GQ (Bd hk)
    omega) (fun i u hi' bu=>by
    have bu' :=Below.and bW bu
    refine(NR d H (fun g=>(F g/\g<w.heap.size)/\g<W.heap.size) (.slice a1 m.1.length q1) (.slice a2 m.2.length q2) (.slice a3 b.length q3) w.heap.size (w.heap.size+1) m b f lo hi (Ay xs i) i u (((ex.2 i (by rw[ex.1];exact hi')).lt.below bW).lt.below bu) (hc.row.below bu') (hb.below bu') (BX.step bu) (Ac bu (by show w.heap.size+1<_;omega) BC) (by have:=bu.size;omega) hs hm hi' ?_).mono ?_
    ·have h5:wt d (m.1.getD i Ah)<=wtL d m.1:=GQ (Bd hi')
     omega
    ·rintro e u' ⟨v1,v2,rfl,t1,t2,b1⟩
     exact⟨v1,v2,rfl,t1,t2,b1⟩)
  rw[ex.1] at this
  refine this.mono ?_
  rintro e w' ⟨v1,v2,rfl,t1,t2,b1⟩
  exact⟨v1,v2,rfl,t1,t2,b1⟩
 clear ht hc hb hs hm hok hn ex rx hkm hsum hsl H;generalize Ba (Ae d) m b=R at *
 generalize m.1.length=n1 at *
 generalize m.2.length=n2 at *
 generalize b.length=nb at *
 have X:Hid (Ai (((w.alloc (.cells #[.slice a1 n1 q1, .slice a2 n2 q2] 52)).alloc (.cells #[.slice a3 nb q3] 27)).alloc (.cells #[.slice none 0 0, .slice none 0 0] 52)) w.heap.size #[.slice a1 n1 q1, .slice a2 n2 q2]/\Ai (((w.alloc (.cells #[.slice a1 n1 q1, .slice a2 n2 q2] 52)).alloc (.cells #[.slice a3 nb q3] 27)).alloc (.cells #[.slice none 0 0, .slice none 0 0] 52)) (w.heap.size+2) #[.slice none 0 0, .slice none 0 0]/\(((w.alloc (.cells #[.slice a1 n1 q1, .slice a2 n2 q2] 52)).alloc (.cells #[.slice a3 nb q3] 27)).alloc (.cells #[.slice none 0 0, .slice none 0 0] 52)).cell? ⟨w.heap.size+1,0,none⟩=some (.slice a3 nb q3)):=by
  refine⟨((Ai.start w _).step (al1 _ _)).step (al1 _ _), ?_, ?_⟩
  ·have:=Ai.start ((w.alloc (.cells #[.slice a1 n1 q1, .slice a2 n2 q2] 52)).alloc (.cells #[.slice a3 nb q3] 27)) #[.slice none 0 0, .slice none 0 0]
   rw[World.size_alloc,World.size_alloc] at this
   exact this
  ·have h1:=Ck (al1 _ (.cells #[.slice none 0 0, .slice none 0 0] 52)) (heap_alloc_new (w.alloc (.cells #[.slice a1 n1 q1, .slice a2 n2 q2] 52)) (.cells #[.slice a3 nb q3] 27))
   rw[World.size_alloc] at h1
   rw[cell_of_row _ _ 0 _ 27 (0,0) h1];rfl
 have C1:Hid _:=W3.out _ (al3 w _ _ _) X.out.1 X.out.2.2 (by simp)
 have x2:=X.out.1.two
 go_enter Tryz.func67,Tryz.ntmps67
 go_wp2_with fail;refine Calls.mono C1.out ?_
 rintro e w1 ⟨v1,v2,rfl,t1,t2,b1⟩
 obtain⟨x1,y1,hv1,_⟩:=t1.els.choose_spec.2.row.len
 obtain⟨x2',y2,hv2,_⟩:=t2.row.len
 subst hv1 hv2;have X3:=X.out.2.1.step b1
 obtain⟨g0,g1⟩:=X3.two
 obtain⟨f0,f1⟩:=X3.free
 have FIN:Hid (Ad d (setR w1 (w.heap.size+2) (.slice x1 R.1.length y1) (.slice x2' R.2.length y2)) (fun g=>F g∨w.heap.size<=g) (.slice x1 R.1.length y1) R.1/\Aj (setR w1 (w.heap.size+2) (.slice x1 R.1.length y1) (.slice x2' R.2.length y2)) (fun g=>F g∨w.heap.size<=g) (.slice x2' R.2.length y2) R.2.length (Ab R.2)/\Below w.heap.size w (setR w1 (w.heap.size+2) (.slice x1 R.1.length y1) (.slice x2' R.2.length y2))/\Ai (setR w1 (w.heap.size+2) (.slice x1 R.1.length y1) (.slice x2' R.2.length y2)) (w.heap.size+2) #[.slice x1 R.1.length y1, .slice x2' R.2.length y2]):=by
  have D:∀g,(F g/\g<w.heap.size)∨(((w.alloc (.cells #[.slice a1 n1 q1, .slice a2 n2 q2] 52)).alloc (.cells #[.slice a3 nb q3] 27)).alloc (.cells #[.slice none 0 0, .slice none 0 0] 52)).heap.size<=g->¬g=w.heap.size+2:=fun g hg e=>by rcases hg with⟨_,h⟩|h<;>(try simp at h)<;>omega
  have M1:∀g,(F g/\g<w.heap.size)∨(((w.alloc (.cells #[.slice a1 n1 q1, .slice a2 n2 q2] 52)).alloc (.cells #[.slice a3 nb q3] 27)).alloc (.cells #[.slice none 0 0, .slice none 0 0] 52)).heap.size<=g->F g∨w.heap.size<=g:=fun g hg=>hg.imp And.left (fun h=>by simp at h;omega)
  exact⟨(t1.chg (Av w1 (w.heap.size+2) _ _) (fun g hg=>D g hg)).mono M1,(t2.chg (Av w1 (w.heap.size+2) _ _) (fun g hg=>D g hg)).mono M1,((Below.and (al3 _ _ _ _) b1).setCell (p:=⟨w.heap.size+2,0,none⟩) (Nat.le_add_right _ _) _).setCell (p:=⟨w.heap.size+2,1,none⟩) (Nat.le_add_right _ _) _,X3.set2 _ _⟩
 clear t1 t2 b1 X3 X C1 W3 x2;go_wp2;have Z:=FIN.out.2.2.2.two
 exact bodyPost_ret (v:= .agg #[.slice x1 R.1.length y1, .slice x2' R.2.length y2]) (by simp[results,Tryz.results67,go_sem,Z.1,Z.2]) rfl ⟨_,_,rfl,FIN.out.1,FIN.out.2.1,FIN.out.2.2.1⟩
end
section
open Go.RowKit

def PH (J:Nat->Act->World->Prop) (Q:Exit->Act->World->Prop):Exit->Act->World->Prop
 |.goto l,a,w=>J l a w
 |e,a,w=>Q e a w

theorem NM {P:Program} {c:Code} {Q:Exit->Act->World->Prop} {a:Act} {w:World} (J:Nat->Act->World->Prop) (μ :Nat->Act->World->Nat) (rest:Nat->Code)
  (hlab:∀l a w,J l a w->findLabel c l=some (rest l))
  (first:c.wp P (PH J Q) a w)
  (pass:∀l a w,J l a w->(rest l).wp P (PH (fun l' a' w' =>J l' a' w' ∧ μ l' a' w' < μ l a w) Q) a w):(Code.scope c).wp P Q a w:=by
 intro b k cs
 -- from any label on
 have back:∀n l a w, μ l a w<n->J l a w->∃e a' w',Q e a' w' ∧Arrives P (lone (b.at a (.code (rest l):: .inScope c::k)) cs w) b k cs e a' w' :=by
  intro n;induction n with
  |zero=>intro l a w h;omega
  |succ n ih=>
   intro l a w hn hJ;obtain⟨e,a1,w1,hq,arr⟩:=pass l a w hJ b (.inScope c::k) cs
   cases e with
   |goto l'=>
    have hq' :J l' a1 w1∧ μ l' a1 w1< μ l a w:=hq
    obtain⟨e2,a2,w2,hq2,arr2⟩:=ih l' a1 w1 (by omega) hq'.1
    have hg:gotoIn l' (.inScope c::k)=some (.code (rest l'):: .inScope c::k):=by simp[gotoIn,hlab l' a1 w1 hq'.1]
    exact⟨e2,a2,w2,hq2, .of_steps (arr _ hg) arr2⟩
   |normal=>exact⟨.normal,a1,w1,hq,Steps.trans arr (.one step_inScope)⟩
   |exit id=>exact⟨.exit id,a1,w1,hq,fun k' hk=>arr k' (by simp[exitTo,hk])⟩
   |ret=>exact⟨.ret,a1,w1,hq,arr⟩
   |panic ch=>exact⟨.panic ch,a1,w1,hq,arr⟩
   |outgrown=>exact⟨.outgrown,a1,w1,hq,arr⟩
 obtain⟨e,a1,w1,hq,arr⟩:=first b (.inScope c::k) cs
 cases e with
 |goto l=>
  have hJ:J l a1 w1:=hq
  obtain⟨e2,a2,w2,hq2,arr2⟩:=back _ l a1 w1 (Nat.lt_succ_self _) hJ
  have hg:gotoIn l (.inScope c::k)=some (.code (rest l):: .inScope c::k):=by simp[gotoIn,hlab l a1 w1 hJ]
  exact⟨e2,a2,w2,hq2, .of_steps (.head step_scope (arr _ hg)) arr2⟩
 |normal=>exact⟨.normal,a1,w1,hq, .head step_scope (Steps.trans arr (.one step_inScope))⟩
 |exit id=>exact⟨.exit id,a1,w1,hq,fun k' hk=> .head step_scope (arr k' (by simp[exitTo,hk]))⟩
 |ret=>exact⟨.ret,a1,w1,hq, .of_steps (.one step_scope) arr⟩
 |panic ch=>exact⟨.panic ch,a1,w1,hq, .of_steps (.one step_scope) arr⟩
 |outgrown=>exact⟨.outgrown,a1,w1,hq, .of_steps (.one step_scope) arr⟩
end
section
open Go.RowKit

theorem MU {d:Nat} {g:Tr->ML->TM} (hg:Om d g):∀f f' (x:TM) (b:ML),MOk d x->b.length<=f->b.length<=f' ->Bs g f x b=Bs g f' x b
 |0,0,_,_,_,_,_=>rfl
 |0,f' +1,x,b,_,h,_=>by rw[Bs,Bs,if_neg (by omega)]
 |f+1,0,x,b,_,_,h=>by rw[Bs,Bs,if_neg (by omega)]
 |f+1,f' +1,x,b,hx,h,h' =>by
  rw[Bs,Bs]
  split
  ·have hat:=(Dl x.2 b x.1.length (by have:=hx.1;omega)).1
   have hp:=Fa (cs:=x.2) (b:=b) (n:=x.1.length) (by omega) (by have:=hx.1;omega)
   have hr:=EP x.2 (Ak x.2 b x.1.length).1 b
   have hk:=hg (x.1.getD (Ak x.2 b x.1.length).1 Ah) (Ar x.2 (Ak x.2 b x.1.length).1 b) (hx.2 _ (Bd hat)) hp
   exact MU hg f f' _ _ (Hm hx hk.1 hat).1 (by omega) (by omega)
  ·rfl
theorem Oj {d:Nat} {g:Tr->ML->TM} (hg:Om d g) {x:TM} {b:ML} (hx:MOk d x) (h6:6<b.length):Bs g b.length x b=Bs g (AZ x.2 (Ak x.2 b x.1.length).1 b).length (Bb x (Ak x.2 b x.1.length).1 (g (x.1.getD (Ak x.2 b x.1.length).1 Ah) (Ar x.2 (Ak x.2 b x.1.length).1 b))) (AZ x.2 (Ak x.2 b x.1.length).1 b):=by
 have hat:=(Dl x.2 b x.1.length (by have:=hx.1;omega)).1
 have hp:=Fa (cs:=x.2) (b:=b) (n:=x.1.length) (by omega) (by have:=hx.1;omega)
 have hr:=EP x.2 (Ak x.2 b x.1.length).1 b
 have hk:=hg (x.1.getD (Ak x.2 b x.1.length).1 Ah) (Ar x.2 (Ak x.2 b x.1.length).1 b) (hx.2 _ (Bd hat)) hp
 obtain⟨n,hn⟩:∃n,b.length=n+1:=⟨b.length-1,by omega⟩
 conv=>lhs;rw[hn,Bs,if_pos h6]
 exact MU hg n _ _ _ (Hm hx hk.1 hat).1 (by omega) (Nat.le_refl _)
theorem UC {g:Tr->ML->TM} {x:TM} {b:ML} (h6:¬6<b.length):Bs g b.length x b=(x,b):=by
 cases h:b.length with
 |zero=>rfl
 |succ n=>rw[Bs,if_neg h6]
theorem Ww {d:Nat} {x:TM} {b:ML} (hx:MOk d x) (h4:4<x.1.length):Bc (Ba (Ae d) x b)=IE (Ae d) (x,b):=by
 have:=(Eu (Bh d) hx b).2.2
 rw[Bc,if_pos (by omega),IE,if_pos h4]

def Kw (J0 J1:Act->World->Prop) (Q:Exit->Act->World->Prop):Exit->Act->World->Prop
 |.goto 0,a,w=>J0 a w
 |.goto 1,a,w=>J1 a w
 |.goto _,_,_=>False
 |e,a,w=>Q e a w
theorem Jg {J0 J1:Act->World->Prop} {Q:Exit->Act->World->Prop} (J:Nat->Act->World->Prop) (h0:∀a w,J0 a w->J 0 a w) (h1:∀a w,J1 a w->J 1 a w):∀e a w,Kw J0 J1 Q e a w->PH J Q e a w:=by
 intro e a w h
 cases e with
 |goto l=>
  match l,h with
  |0,h=>exact h0 a w h
  |1,h=>exact h1 a w h
 |normal=>exact h
 |exit id=>exact h
 |ret=>exact h
 |panic ch=>exact h
 |outgrown=>exact h
theorem Qe {P:Program} {c r0 r1:Code} {Q:Exit->Act->World->Prop} {a:Act} {w:World} (J0 J1:Act->World->Prop) (μ :Act->World->Nat)
  (f0:findLabel c 0=some r0) (f1:findLabel c 1=some r1)
  (first:c.wp P (Kw J0 J1 Q) a w)
  (pass1:∀a w,J1 a w->r1.wp P (Kw J0 (fun a' w' =>J1 a' w' ∧ μ a' w' < μ a w) Q) a w)
  (pass0:∀a w,J0 a w->r0.wp P (Kw (fun _ _=>False) (fun _ _=>False) Q) a w):(Code.scope c).wp P Q a w:=by
 refine NM (fun l a w=>(l=0/\J0 a w)∨(l=1/\J1 a w)) (fun l a w=>if l=0 then 0 else μ a w+1) (fun l=>if l=0 then r0 else r1) ?_ ?_ ?_
 ·rintro l a w (⟨rfl,_⟩|⟨rfl,_⟩)
  ·exact f0
  ·exact f1
 ·exact Code.wp_mono (Jg _ (fun a w h=> .inl ⟨rfl,h⟩) (fun a w h=> .inr ⟨rfl,h⟩)) first
 ·rintro l a w (⟨rfl,h⟩|⟨rfl,h⟩)
  ·exact Code.wp_mono (Jg _ (fun a w h=>h.elim) (fun a w h=>h.elim)) (pass0 a w h)
  ·refine Code.wp_mono (Jg _ (fun a' w' h=> ?_) (fun a' w' h=> ?_)) (pass1 a w h)
   ·exact⟨.inl ⟨rfl,h⟩,by simp⟩
   ·exact⟨.inr ⟨rfl,h.1⟩,by simp;exact h.2⟩
end
end Go.Proofs.YtnakaabnjelffaaGreat
