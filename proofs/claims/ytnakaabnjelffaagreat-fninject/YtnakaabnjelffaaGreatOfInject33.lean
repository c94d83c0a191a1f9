/-
  The contract of the program's giveBusiest.
-/
import Derived.Test.YtnakaabnjelffaaGreatOfInject29
import Derived.Test.YtnakaabnjelffaaGreatOfInject32
namespace Go.Proofs.YtnakaabnjelffaaGreat
set_option maxRecDepth 100000
set_option maxHeartbeats 8000000
section
open Go.RowKit

def Oy (d:Nat):Prop:=∀(F:Nat->Prop) (x:TV) (T:Tr) (vm:Value) (ms:ML) (lo hi:Int) (w:World),Aq d w F x T->Row w vm ms.length (Al ms)->AG d T lo hi=d->ES lo hi ms->0<ms.length->wt d T+ms.length<=100000→
 Calls Tryz.prog 25 #[x.val,vm] w fun e w' =>∃v1 v2,e= .returned (.agg #[v1,v2])/\Ad d w' (fun b=>F b∨w.heap.size<=b) v1 (Ae d T ms).1/\Aj w' (fun b=>F b∨w.heap.size<=b) v2 (Ae d T ms).2.length (Ab (Ae d T ms).2)/\Below w.heap.size w w'

theorem Ca {u:World} {B:Nat} {A:Array Value} (h:Ai u (B+1) A):B+2<=u.heap.size:=by have:=h.lt;omega

theorem Hv (d:Nat) (H:Oy d) (F:Nat->Prop) (vt vc vb:Value) (m:TM) (b:ML) (f:Int->Int × Bool) (lo hi:Int) (w:World) (ht:Ad d w F vt m.1) (hc:Aj w F vc m.2.length (Ab m.2)) (hb:Row w vb b.length (Al b))
  (hs:Seg d f lo hi m.2 m.1) (hm:ES lo hi b) (h2:2<=m.1.length) (hb0:0<b.length) (hok:MOk d m) (hn:wtL d m.1+b.length<=100000) :
  Calls Tryz.prog 95 #[.agg #[vt,vc],vb] w fun e w' =>∃v1 v2 v3,e= .returned (.tuple #[.agg #[v1,v2],v3])∧
   Ad d w' (fun g=>F g∨w.heap.size<=g) v1 (Bb m (Ak m.2 b m.1.length).1 (Ae d (m.1.getD (Ak m.2 b m.1.length).1 Ah) (Ar m.2 (Ak m.2 b m.1.length).1 b))).1∧
   Aj w' (fun g=>F g∨w.heap.size<=g) v2 (Bb m (Ak m.2 b m.1.length).1 (Ae d (m.1.getD (Ak m.2 b m.1.length).1 Ah) (Ar m.2 (Ak m.2 b m.1.length).1 b))).2.length (Ab (Bb m (Ak m.2 b m.1.length).1 (Ae d (m.1.getD (Ak m.2 b m.1.length).1 Ah) (Ar m.2 (Ak m.2 b m.1.length).1 b))).2)∧
   Aj w' (fun g=>F g∨w.heap.size<=g) v3 (AZ m.2 (Ak m.2 b m.1.length).1 b).length (Al (AZ m.2 (Ak m.2 b m.1.length).1 b))/\Below w.heap.size w w' :=by
 obtain⟨k0,hk0,hz0,hz1,hz2⟩:=info_parts Tryz.info31
 have hl:=hs.len
 have hcs:=hs.cuts
 have hwl:=AY hok.2
 have hat:=(Dl m.2 b m.1.length (by omega)).1
 have hpos:=Fa (cs:=m.2) (b:=b) (n:=m.1.length) hb0 (by omega)
 have hmost:m.2.length+1=m.1.length:=hl
 have BU:Hid (∀w1,Below w.heap.size w w1->Calls Tryz.prog 118 #[vc,vb] w1 fun e w' =>e= .returned (.int .i64 ((Ak m.2 b m.1.length).1:Nat))/\Below w1.heap.size w1 w'):=fun w1 hb' =>by
  have:=Rn vc vb m.2 b lo hi w1 (hc.row.below hb') (hb.below hb') hcs (by omega) (by omega)
  rw[hl] at this
  exact this
 generalize hI:(Ak m.2 b m.1.length).1=i at *
 clear hI;have MK:Hid (∀w1,Below w.heap.size w w1->Calls Tryz.prog 75 #[vc, .int .i64 (i:Nat),vb] w1 fun e w' =>∃v',e= .returned v' ∧w'.ownsRow w1.heap.size 31 3 v' (Ar m.2 i b).length (Al (Ar m.2 i b))/\Below w1.heap.size w1 w'):=fun w1 hb' =>by
  have:=GJ vc m.2 i vb b w1 (hc.row.below hb') (hb.below hb') (by omega)
  rw[hcs.mineK] at this
  exact this
 have KT:Hid (∀(x:Int) (w1:World),Below w.heap.size w w1->Calls Tryz.prog 106 #[vc, .int .i64 x] w1 fun e w' =>e= .returned (.int .i64 (AN m.2 x:Nat))/\Below w1.heap.size w1 w'):=fun x w1 hb' =>by
  have:=Kt vc m.2 x w1 (hc.row.below hb')
  rw[hcs.cnt] at this
  exact this
 have hml:=Cy m.2 i b
 have hkok:=Bd hat
 have hkw:wt d (m.1.getD i Ah)+(Ar m.2 i b).length<=100000:=by
  have h1:wt d (m.1.getD i Ah)<=wtL d m.1:=by
   have:=(Hm (d:=d) (m:=m) (x:=([m.1.getD i Ah],[])) (i:=i) hok (MOk.one (hok.2 _ hkok)) hat).2.1
   rw[F9] at this
   have e:(Bb m i ([m.1.getD i Ah],[])).1=m.1:=by
    show m.1.take i++[m.1.getD i Ah]++m.1.drop (i+1)=m.1
    rw[List.append_assoc,List.singleton_append]
    have:m.1.getD i Ah::m.1.drop (i+1)=m.1.drop i:=by rw[List.drop_eq_getElem_cons hat];simp[List.getD,hat]
    rw[this,List.take_append_drop]
   have hp:wtL d m.1=wtL d (m.1.take i)+(wt d (m.1.getD i Ah)+wtL d (m.1.drop (i+1))):=by
    conv=>lhs;rw[←e]
    show wtL d (m.1.take i++[m.1.getD i Ah]++m.1.drop (i+1))=_
    rw[Dg,Dg,F9];omega
   omega
  omega
 obtain⟨gk1,gk2⟩:=Bh d (m.1.getD i Ah) (Ar m.2 i b) (hok.2 _ hkok) hpos
 have gkl:=AY gk1.2
 have gk0:=gk1.1
 have HG:=H
 obtain⟨xs,ex,rx⟩:=ht.els
 have hel:=ex.2 i (by rw[ex.1];exact hat)
 obtain⟨r1,r2,r3,r4,s1,s2,s3,s4,hy⟩:=hel.treeAt.shape
 have GV:=hid (fun (w1:World) (v:Value) (hb' :Below w.heap.size w w1) (hv:Row w1 v (Ar m.2 i b).length (Al (Ar m.2 i b)))=>H (fun g=>F g/\g<w.heap.size) (Ay xs i) (m.1.getD i Ah) v (Ar m.2 i b) (frC m.2 lo i) (toC m.2 hi i) w1 (hel.lt.below hb') hv (hs.at i hat).1 (hm.mine hcs (by omega)) hpos hkw)
 have rx' :=rx.row
 rw[←ex.1] at rx'
 obtain⟨_,b1,o1,q1,hv1,hcap1,hmax1,ha1,c0,c1,c2,c3,c4⟩:=rx'.trees
 obtain⟨_,b2,o2,q2,hv2,hcap2,hmax2,ha2,_⟩:=hc.row.ints
 have ha1' :=ha1 (by rw[ex.1];omega)
 have ha2' :=ha2 (by omega)
 subst ha1' ha2';rw[ex.1] at hv1 hcap1 ha1 c0 c1 c2 c3 c4
 subst hv1 hv2;have IP:Hid (∀(w1:World) (ut uc:Value),Below w.heap.size w w1->Ad d w1 (fun g=>(F g/\g<w.heap.size)∨w.heap.size+2<=g) ut (Ae d (m.1.getD i Ah) (Ar m.2 i b)).1->Aj w1 (fun g=>(F g/\g<w.heap.size)∨w.heap.size+2<=g) uc (Ae d (m.1.getD i Ah) (Ar m.2 i b)).2.length (Ab (Ae d (m.1.getD i Ah) (Ar m.2 i b)).2)→
   Calls Tryz.prog 103 #[.agg #[.slice (some ⟨b1,o1,none⟩) m.1.length q1, .slice (some ⟨b2,o2,none⟩) m.2.length q2], .int .i64 (i:Nat),uc,ut] w1 fun e w' =>∃v1 v2,e= .returned (.agg #[v1,v2])/\Ad d w' (fun g=>((F g/\g<w.heap.size)∨w.heap.size+2<=g)∨w1.heap.size<=g) v1 (Bb m i (Ae d (m.1.getD i Ah) (Ar m.2 i b))).1/\Aj w' (fun g=>((F g/\g<w.heap.size)∨w.heap.size+2<=g)∨w1.heap.size<=g) v2 (Bb m i (Ae d (m.1.getD i Ah) (Ar m.2 i b))).2.length (Ab (Bb m i (Ae d (m.1.getD i Ah) (Ar m.2 i b))).2)/\Below w1.heap.size w1 w'):=fun w1 ut uc hb' t r=>
  GN d (fun g=>(F g/\g<w.heap.size)∨w.heap.size+2<=g) (.slice (some ⟨b1,o1,none⟩) m.1.length q1) (.slice (some ⟨b2,o2,none⟩) m.2.length q2) ut uc m (Ae d (m.1.getD i Ah) (Ar m.2 i b)) i w1 ((ht.lt.below hb').mono (fun g hg=> .inl hg)) (((hc.lt (Ch _).2).below hb').mono (fun g hg=> .inl hg)) t r hl h2 hat (by omega) (by omega) (by omega)
 have CC:Hid (∀u,Below w.heap.size w u->u.cell? ⟨b1,o1+i*5,none⟩=some (.bool (Ay xs i).lf)/\u.cell? ⟨b1,o1+i*5+1,none⟩=some (Ay xs i).p/\u.cell? ⟨b1,o1+i*5+2,none⟩=some (Ay xs i).c/\u.cell? ⟨b1,o1+i*5+3,none⟩=some (Ay xs i).k/\u.cell? ⟨b1,o1+i*5+4,none⟩=some (Ay xs i).b):=fun u hu=>
  ⟨Ac hu (Aa (c0 i hat)) (c0 i hat),Ac hu (Aa (c1 i hat)) (c1 i hat),Ac hu (Aa (c2 i hat)) (c2 i hat),Ac hu (Aa (c3 i hat)) (c3 i hat),Ac hu (Aa (c4 i hat)) (c4 i hat)⟩
 rw[hy] at CC GV
 obtain⟨a3,bb,off,cap,hvb,hcap,hmax,ha,d0,d1,d2⟩:=hb.msgs
 have ha3:=ha hb0
 subst ha3;subst hvb;clear ha;have MG:Hid (∀(k:Nat) (w1:World),Below w.heap.size w w1->k<b.length->w1.cell? ⟨bb,off+k*3,none⟩=some (.int .i64 (mO b k))/\w1.cell? ⟨bb,off+k*3+1,none⟩=some (.int .i64 (mK b k))/\w1.cell? ⟨bb,off+k*3+2,none⟩=some (.int .i64 (mV b k))):=fun k w1 hb' hk=>
  ⟨Ac hb' (Aa (d0 k hk)) (d0 k hk),Ac hb' (Aa (d1 k hk)) (d1 k hk),Ac hb' (Aa (d2 k hk)) (d2 k hk)⟩
 have RS:=hid (fun j (hj:j<b.length)=>My m.2 i b j hj)
 have RF:Hid (AZ m.2 i (b.take b.length)=AZ m.2 i b):=by
  show _=_
  rw[List.take_of_length_le (Nat.le_refl _)]
 have RN:Hid (∀j,(AZ m.2 i (b.take j)).length<=2097152):=fun j=>Nat.le_trans (JY _ _ _) (Nat.le_trans (List.length_take_le' _ _) (by omega))
 rw[←RF.out]
 generalize hfo:(fun j=>AZ m.2 i (b.take j))=fo
 have hfo' :∀j,AZ m.2 i (b.take j)=fo j:=fun j=>by rw[←hfo]
 have R0:Hid (fo 0=[]):=by
  show _=_
  rw[←hfo];rfl
 simp only[hfo'] at RS RF RN ⊢
 unfold maxLen at hmax hmax1 hmax2;clear hfo hfo' ht hc hb hs hm hok hn hcs hwl hpos hmost hml hkok hkw gk1 gk2 gkl gk0 HG H hel rx rx' c0 c1 c2 c3 c4 d0 d1 d2 ha1 ha2 RF hy;generalize Ae d (m.1.getD i Ah) (Ar m.2 i b)=G at *
 generalize Bb m i G=PM at *
 generalize Ar m.2 i b=MI at *
 generalize (m.1.getD i Ah)=KD at *
 generalize KD.leaf=tl at *
 generalize KD.pairs.length=z1 at *
 generalize KD.cuts.length=z2 at *
 generalize KD.kids.length=z3 at *
 generalize KD.buf.length=z4 at *
 generalize hn1:m.1.length=n1 at *
 generalize hn2:m.2.length=n2 at *
 generalize hnb:b.length=nb at *
 clear hn1 hn2 hnb ex;have CC2:Hid (∀u,Below w.heap.size w u->u.cell? ⟨b1,o1+i*5,none⟩=some (.bool tl)/\u.cell? ⟨b1,o1+i*5+1,none⟩=some (.slice r1 z1 s1)/\u.cell? ⟨b1,o1+i*5+2,none⟩=some (.slice r2 z2 s2)/\u.cell? ⟨b1,o1+i*5+3,none⟩=some (.slice r3 z3 s3)/\u.cell? ⟨b1,o1+i*5+4,none⟩=some (.slice r4 z4 s4)):=CC
 have GV2:=hid (GV)
 clear CC GV;have X0:Hid (Ai ((w.alloc (.cells #[.slice (some ⟨b1,o1,none⟩) n1 q1, .slice (some ⟨b2,o2,none⟩) n2 q2] 52)).alloc (.cells #[.slice none 0 0, .slice none 0 0] 52)) w.heap.size #[.slice (some ⟨b1,o1,none⟩) n1 q1, .slice (some ⟨b2,o2,none⟩) n2 q2]/\Ai ((w.alloc (.cells #[.slice (some ⟨b1,o1,none⟩) n1 q1, .slice (some ⟨b2,o2,none⟩) n2 q2] 52)).alloc (.cells #[.slice none 0 0, .slice none 0 0] 52)) (w.heap.size+1) #[.slice none 0 0, .slice none 0 0]/\Below w.heap.size w ((w.alloc (.cells #[.slice (some ⟨b1,o1,none⟩) n1 q1, .slice (some ⟨b2,o2,none⟩) n2 q2] 52)).alloc (.cells #[.slice none 0 0, .slice none 0 0] 52))):=⟨(Ai.start w _).step (al1 _ _),by
  have:=Ai.start (w.alloc (.cells #[.slice (some ⟨b1,o1,none⟩) n1 q1, .slice (some ⟨b2,o2,none⟩) n2 q2] 52)) #[.slice none 0 0, .slice none 0 0]
  rw[World.size_alloc] at this
  exact this,al2 _ _ _⟩
 go_enter Tryz.func95,Tryz.ntmps95
 go_wp2_with fail;refine Calls.mono (BU.out _ X0.out.2.2) ?_
 rintro e wA ⟨rfl,bA⟩
 have XA:Hid (Ai wA w.heap.size #[.slice (some ⟨b1,o1,none⟩) n1 q1, .slice (some ⟨b2,o2,none⟩) n2 q2]/\Ai wA (w.heap.size+1) #[.slice none 0 0, .slice none 0 0]/\Below w.heap.size w wA):=⟨X0.out.1.step bA,X0.out.2.1.step bA,Below.and X0.out.2.2 bA⟩
 clear bA X0;have SW1:(wA.cell? ⟨w.heap.size,0,none⟩=some (.slice (some ⟨b1,o1,none⟩) n1 q1)/\wA.cell? ⟨w.heap.size,1,none⟩=some (.slice (some ⟨b2,o2,none⟩) n2 q2)/\wA.cell? ⟨b1,o1+i*5,none⟩=some (.bool tl)/\wA.cell? ⟨b1,o1+i*5+1,none⟩=some (.slice r1 z1 s1)/\wA.cell? ⟨b1,o1+i*5+2,none⟩=some (.slice r2 z2 s2)/\wA.cell? ⟨b1,o1+i*5+3,none⟩=some (.slice r3 z3 s3)/\wA.cell? ⟨b1,o1+i*5+4,none⟩=some (.slice r4 z4 s4)/\Hid (Ai wA w.heap.size #[.slice (some ⟨b1,o1,none⟩) n1 q1, .slice (some ⟨b2,o2,none⟩) n2 q2]/\Ai wA (w.heap.size+1) #[.slice none 0 0, .slice none 0 0]/\Below w.heap.size w wA)):=⟨XA.out.1.two.1,XA.out.1.two.2,(CC2.out wA XA.out.2.2).1,(CC2.out wA XA.out.2.2).2.1,(CC2.out wA XA.out.2.2).2.2.1,(CC2.out wA XA.out.2.2).2.2.2.1,(CC2.out wA XA.out.2.2).2.2.2.2,XA.out⟩
 have ST:Hid (∀u u',Below u.heap.size u u' ->(u.cell? ⟨w.heap.size,0,none⟩=some (.slice (some ⟨b1,o1,none⟩) n1 q1)/\u.cell? ⟨w.heap.size,1,none⟩=some (.slice (some ⟨b2,o2,none⟩) n2 q2)/\u.cell? ⟨b1,o1+i*5,none⟩=some (.bool tl)/\u.cell? ⟨b1,o1+i*5+1,none⟩=some (.slice r1 z1 s1)/\u.cell? ⟨b1,o1+i*5+2,none⟩=some (.slice r2 z2 s2)/\u.cell? ⟨b1,o1+i*5+3,none⟩=some (.slice r3 z3 s3)/\u.cell? ⟨b1,o1+i*5+4,none⟩=some (.slice r4 z4 s4)/\Hid (Ai u w.heap.size #[.slice (some ⟨b1,o1,none⟩) n1 q1, .slice (some ⟨b2,o2,none⟩) n2 q2]/\Ai u (w.heap.size+1) #[.slice none 0 0, .slice none 0 0]/\Below w.heap.size w u))->(u'.cell? ⟨w.heap.size,0,none⟩=some (.slice (some ⟨b1,o1,none⟩) n1 q1)/\u'.cell? ⟨w.heap.size,1,none⟩=some (.slice (some ⟨b2,o2,none⟩) n2 q2)/\u'.cell? ⟨b1,o1+i*5,none⟩=some (.bool tl)/\u'.cell? ⟨b1,o1+i*5+1,none⟩=some (.slice r1 z1 s1)/\u'.cell? ⟨b1,o1+i*5+2,none⟩=some (.slice r2 z2 s2)/\u'.cell? ⟨b1,o1+i*5+3,none⟩=some (.slice r3 z3 s3)/\u'.cell? ⟨b1,o1+i*5+4,none⟩=some (.slice r4 z4 s4)/\Hid (Ai u' w.heap.size #[.slice (some ⟨b1,o1,none⟩) n1 q1, .slice (some ⟨b2,o2,none⟩) n2 q2]/\Ai u' (w.heap.size+1) #[.slice none 0 0, .slice none 0 0]/\Below w.heap.size w u'))):=fun u u' hb h=>by
  obtain⟨h1,h2,h3⟩:=h.2.2.2.2.2.2.2.out
  have B:=Below.and h3 hb
  obtain⟨e0,e1,e2,e3,e4⟩:=CC2.out u' B
  exact⟨(h1.step hb).two.1,(h1.step hb).two.2,e0,e1,e2,e3,e4,h1.step hb,h2.step hb,B⟩
 have KA:=hid (fun (u:World) (o:Obj) (h:(u.cell? ⟨w.heap.size,0,none⟩=some (.slice (some ⟨b1,o1,none⟩) n1 q1)/\u.cell? ⟨w.heap.size,1,none⟩=some (.slice (some ⟨b2,o2,none⟩) n2 q2)/\u.cell? ⟨b1,o1+i*5,none⟩=some (.bool tl)/\u.cell? ⟨b1,o1+i*5+1,none⟩=some (.slice r1 z1 s1)/\u.cell? ⟨b1,o1+i*5+2,none⟩=some (.slice r2 z2 s2)/\u.cell? ⟨b1,o1+i*5+3,none⟩=some (.slice r3 z3 s3)/\u.cell? ⟨b1,o1+i*5+4,none⟩=some (.slice r4 z4 s4)/\Hid (Ai u w.heap.size #[.slice (some ⟨b1,o1,none⟩) n1 q1, .slice (some ⟨b2,o2,none⟩) n2 q2]/\Ai u (w.heap.size+1) #[.slice none 0 0, .slice none 0 0]/\Below w.heap.size w u)))=>ST.out u _ (al1 u o) h)
 have SD:=hid (fun u (h:(u.cell? ⟨w.heap.size,0,none⟩=some (.slice (some ⟨b1,o1,none⟩) n1 q1)/\u.cell? ⟨w.heap.size,1,none⟩=some (.slice (some ⟨b2,o2,none⟩) n2 q2)/\u.cell? ⟨b1,o1+i*5,none⟩=some (.bool tl)/\u.cell? ⟨b1,o1+i*5+1,none⟩=some (.slice r1 z1 s1)/\u.cell? ⟨b1,o1+i*5+2,none⟩=some (.slice r2 z2 s2)/\u.cell? ⟨b1,o1+i*5+3,none⟩=some (.slice r3 z3 s3)/\u.cell? ⟨b1,o1+i*5+4,none⟩=some (.slice r4 z4 s4)/\Hid (Ai u w.heap.size #[.slice (some ⟨b1,o1,none⟩) n1 q1, .slice (some ⟨b2,o2,none⟩) n2 q2]/\Ai u (w.heap.size+1) #[.slice none 0 0, .slice none 0 0]/\Below w.heap.size w u)))=>ST.out u _ (Below.refl _ _).drew h)
 have SB:=hid (fun u (h:(u.cell? ⟨w.heap.size,0,none⟩=some (.slice (some ⟨b1,o1,none⟩) n1 q1)/\u.cell? ⟨w.heap.size,1,none⟩=some (.slice (some ⟨b2,o2,none⟩) n2 q2)/\u.cell? ⟨b1,o1+i*5,none⟩=some (.bool tl)/\u.cell? ⟨b1,o1+i*5+1,none⟩=some (.slice r1 z1 s1)/\u.cell? ⟨b1,o1+i*5+2,none⟩=some (.slice r2 z2 s2)/\u.cell? ⟨b1,o1+i*5+3,none⟩=some (.slice r3 z3 s3)/\u.cell? ⟨b1,o1+i*5+4,none⟩=some (.slice r4 z4 s4)/\Hid (Ai u w.heap.size #[.slice (some ⟨b1,o1,none⟩) n1 q1, .slice (some ⟨b2,o2,none⟩) n2 q2]/\Ai u (w.heap.size+1) #[.slice none 0 0, .slice none 0 0]/\Below w.heap.size w u)))=>h.2.2.2.2.2.2.2.out.2.2)
 have KS:Hid (∀(u:World) (g:Nat) (x y:Value),w.heap.size+2<=g->(u.cell? ⟨w.heap.size,0,none⟩=some (.slice (some ⟨b1,o1,none⟩) n1 q1)/\u.cell? ⟨w.heap.size,1,none⟩=some (.slice (some ⟨b2,o2,none⟩) n2 q2)/\u.cell? ⟨b1,o1+i*5,none⟩=some (.bool tl)/\u.cell? ⟨b1,o1+i*5+1,none⟩=some (.slice r1 z1 s1)/\u.cell? ⟨b1,o1+i*5+2,none⟩=some (.slice r2 z2 s2)/\u.cell? ⟨b1,o1+i*5+3,none⟩=some (.slice r3 z3 s3)/\u.cell? ⟨b1,o1+i*5+4,none⟩=some (.slice r4 z4 s4)/\Hid (Ai u w.heap.size #[.slice (some ⟨b1,o1,none⟩) n1 q1, .slice (some ⟨b2,o2,none⟩) n2 q2]/\Ai u (w.heap.size+1) #[.slice none 0 0, .slice none 0 0]/\Below w.heap.size w u))->((setR u g x y).cell? ⟨w.heap.size,0,none⟩=some (.slice (some ⟨b1,o1,none⟩) n1 q1)/\(setR u g x y).cell? ⟨w.heap.size,1,none⟩=some (.slice (some ⟨b2,o2,none⟩) n2 q2)/\(setR u g x y).cell? ⟨b1,o1+i*5,none⟩=some (.bool tl)/\(setR u g x y).cell? ⟨b1,o1+i*5+1,none⟩=some (.slice r1 z1 s1)/\(setR u g x y).cell? ⟨b1,o1+i*5+2,none⟩=some (.slice r2 z2 s2)/\(setR u g x y).cell? ⟨b1,o1+i*5+3,none⟩=some (.slice r3 z3 s3)/\(setR u g x y).cell? ⟨b1,o1+i*5+4,none⟩=some (.slice r4 z4 s4)/\Hid (Ai (setR u g x y) w.heap.size #[.slice (some ⟨b1,o1,none⟩) n1 q1, .slice (some ⟨b2,o2,none⟩) n2 q2]/\Ai (setR u g x y) (w.heap.size+1) #[.slice none 0 0, .slice none 0 0]/\Below w.heap.size w (setR u g x y)))):=fun u g x y hg h=>by
  obtain⟨h1,h2,h3⟩:=h.2.2.2.2.2.2.2.out
  have B:Below w.heap.size w (setR u g x y):=(h3.setCell (p:=⟨g,0,none⟩) (by show _<=g;omega) x).setCell (p:=⟨g,1,none⟩) (by show _<=g;omega) y
  obtain⟨e0,e1,e2,e3,e4⟩:=CC2.out _ B
  have h0:=h1.setR x y (show ¬w.heap.size=g by omega)
  exact⟨h0.two.1,h0.two.2,e0,e1,e2,e3,e4,h0,h2.setR x y (by omega),B⟩
 clear XA;have hi0:(0:Int)<=(i:Int):=by omega
 have hin:(i:Int)<(n1:Int):=by omega
 go_wp2_with fail;have hA2:w.heap.size+2<=wA.heap.size:=Ca SW1.2.2.2.2.2.2.2.out.2.1
 go_cut [7] (fun s7 wx=>∃(g:Nat) (e1 e2:Option Addr) (p1 p2:Nat),s7= .pointer (some ⟨g,0,none⟩)/\w.heap.size+2<=g/\Hid (Ai wx g #[.slice e1 G.1.length p1, .slice e2 G.2.length p2]/\Ad d wx (fun g=>(F g/\g<w.heap.size)∨w.heap.size+2<=g) (.slice e1 G.1.length p1) G.1/\Aj wx (fun g=>(F g/\g<w.heap.size)∨w.heap.size+2<=g) (.slice e2 G.2.length p2) G.2.length (Ab G.2))/\(wx.cell? ⟨w.heap.size,0,none⟩=some (.slice (some ⟨b1,o1,none⟩) n1 q1)/\wx.cell? ⟨w.heap.size,1,none⟩=some (.slice (some ⟨b2,o2,none⟩) n2 q2)/\wx.cell? ⟨b1,o1+i*5,none⟩=some (.bool tl)/\wx.cell? ⟨b1,o1+i*5+1,none⟩=some (.slice r1 z1 s1)/\wx.cell? ⟨b1,o1+i*5+2,none⟩=some (.slice r2 z2 s2)/\wx.cell? ⟨b1,o1+i*5+3,none⟩=some (.slice r3 z3 s3)/\wx.cell? ⟨b1,o1+i*5+4,none⟩=some (.slice r4 z4 s4)/\Hid (Ai wx w.heap.size #[.slice (some ⟨b1,o1,none⟩) n1 q1, .slice (some ⟨b2,o2,none⟩) n2 q2]/\Ai wx (w.heap.size+1) #[.slice none 0 0, .slice none 0 0]/\Below w.heap.size w wx)))
 case first=>
  go_region_held3 (fun u=>(u.cell? ⟨w.heap.size,0,none⟩=some (.slice (some ⟨b1,o1,none⟩) n1 q1)/\u.cell? ⟨w.heap.size,1,none⟩=some (.slice (some ⟨b2,o2,none⟩) n2 q2)/\u.cell? ⟨b1,o1+i*5,none⟩=some (.bool tl)/\u.cell? ⟨b1,o1+i*5+1,none⟩=some (.slice r1 z1 s1)/\u.cell? ⟨b1,o1+i*5+2,none⟩=some (.slice r2 z2 s2)/\u.cell? ⟨b1,o1+i*5+3,none⟩=some (.slice r3 z3 s3)/\u.cell? ⟨b1,o1+i*5+4,none⟩=some (.slice r4 z4 s4)/\Hid (Ai u w.heap.size #[.slice (some ⟨b1,o1,none⟩) n1 q1, .slice (some ⟨b2,o2,none⟩) n2 q2]/\Ai u (w.heap.size+1) #[.slice none 0 0, .slice none 0 0]/\Below w.heap.size w u))) (first|assumption|exact SD.out _ (by assumption)|exact KA.out _ _ (by assumption)|exact KS.out _ _ _ _ (by omega) (by assumption)) (first
   |(go_at_call 75;refine Calls.mono (MK.out _ (SB.out _ (by assumption))) ?_;rintro e wa ⟨va,rfl,pa,pba⟩;have SWa:=ST.out _ _ pba (by assumption);obtain⟨ca,da,hva,_⟩:=(Row.of_owns pa).len;subst hva;have RA:Hid (∀x,Below wa.heap.size wa x->Row x (.slice ca MI.length da) MI.length (Al MI)):=fun x hx=>(Row.of_owns pa).below hx;have PBa:Hid _:=pba;have haa:=Ca SWa.2.2.2.2.2.2.2.out.2.1;clear pa pba)
   |(go_at_call 25;refine Calls.mono (GV2.out _ _ (SB.out _ (by assumption)) (RA.out _ (by first|exact Below.refl _ _|exact al1 _ _))) ?_;rintro e wb ⟨v1,v2,rfl,t1,t2,pbb⟩;have SWb:=ST.out _ _ pbb (by assumption);obtain⟨e1,p1,hv1,_⟩:=t1.els.choose_spec.2.row.len;obtain⟨e2,p2,hv2,_⟩:=t2.row.len;subst hv1 hv2;have T5:Hid _:=And.intro t1.lt (t2.lt (Ch _).2);have PBb:Hid _:=pbb;have hbb:=Ca SWb.2.2.2.2.2.2.2.out.2.1;(first|(have BX:Ai wb wA.heap.size #[.slice none 0 0, .slice none 0 0]:=(Ck PBb.out (Ck PBa.out (FP (DY rfl))));obtain⟨f0,f1⟩:=BX.free;obtain⟨g0,g1⟩:=BX.two;have BY:Hid _:=BX;clear BX)|(have BX:Ai wb wa.heap.size #[.slice none 0 0, .slice none 0 0]:=(Ck PBb.out (DY rfl));obtain⟨f0,f1⟩:=BX.free;obtain⟨g0,g1⟩:=BX.two;have BY:Hid _:=BX;clear BX)|skip);clear t1 t2 pbb))
  all_goals
   have hpa:=PBa.out.size
   simp at hpa
   go_wp2;go_meet
  case rel=>exact⟨wb.heap.size,e1,e2,p1,p2,rfl,hbb,⟨Ai.start wb _,(T5.out.1.below (al1 _ _)).mono (fun g hg=>hg.1.imp id (fun h=>by (try simp at h);omega)),(T5.out.2.below (al1 _ _)).mono (fun g hg=>hg.1.imp id (fun h=>by (try simp at h);omega))⟩,KA.out _ _ SWb⟩
  case rel=>exact⟨wa.heap.size,e1,e2,p1,p2,rfl,haa,⟨Ai.set2 BY.out _ _,(T5.out.1.chg (Av wb wa.heap.size _ _) (fun g hg e=>by have h0:=hg.1;rcases h0 with⟨_,h⟩|h<;>(try simp at h)<;>omega)).mono (fun g hg=>hg.1.imp id (fun h=>by (try simp at h);omega)),(T5.out.2.chg (Av wb wa.heap.size _ _) (fun g hg e=>by have h0:=hg.1;rcases h0 with⟨_,h⟩|h<;>(try simp at h)<;>omega)).mono (fun g hg=>hg.1.imp id (fun h=>by (try simp at h);omega))⟩,KS.out _ _ _ _ haa SWb⟩
  case rel=>exact⟨wA.heap.size,e1,e2,p1,p2,rfl,hA2,⟨Ai.set2 BY.out _ _,(T5.out.1.chg (Av wb wA.heap.size _ _) (fun g hg e=>by have h0:=hg.1;rcases h0 with⟨_,h⟩|h<;>(try simp at h)<;>omega)).mono (fun g hg=>hg.1.imp id (fun h=>by (try simp at h);omega)),(T5.out.2.chg (Av wb wA.heap.size _ _) (fun g hg e=>by have h0:=hg.1;rcases h0 with⟨_,h⟩|h<;>(try simp at h)<;>omega)).mono (fun g hg=>hg.1.imp id (fun h=>by (try simp at h);omega))⟩,KS.out _ _ _ _ hA2 SWb⟩
 case rest=>
 obtain⟨g,e1,e2,p1,p2,rfl,hg2,CB,SC⟩:=hcut
 obtain⟨SB1,SB2,SB3⟩:=SC.2.2.2.2.2.2.2.out
 have SV:Hid (Ai wc w.heap.size #[.slice (some ⟨b1,o1,none⟩) n1 q1, .slice (some ⟨b2,o2,none⟩) n2 q2]/\Ai wc (w.heap.size+1) #[.slice none 0 0, .slice none 0 0]/\Below w.heap.size w wc):=⟨SB1,SB2,SB3⟩
 have L0:Hid (wc.ownsRow wc.heap.size 31 3 (.slice none 0 0) (fo 0).length (Al (fo 0))):=by rw[R0.out];exact World.ownsRow_nil _ _ _ _
 clear SC SB1 SB2 SB3 ST KA SD SB KS CC2 GV2 MK BU SW1 hA2;go_wp2;go_loopw [8,28] (fun out ix wr=>∃j:Nat,j<=nb/\ix= .int .i64 j/\Hid (wr.ownsRow wc.heap.size 31 3 out (fo j).length (Al (fo j)))/\Hid (Below wc.heap.size wc wr))
  (fun _ ix _=>nb-(intOf ix).toNat)
 case atStart=>exact⟨0,Nat.zero_le _,rfl,L0,Below.refl _ _⟩
 case round=>
  obtain⟨j,hj,rfl,ON,BN⟩:=hrel
  clear L0;have BW:Hid (Below w.heap.size w wr):=Below.and SV.out.2.2 BN.out
  have BV:Ai wr w.heap.size #[.slice (some ⟨b1,o1,none⟩) n1 q1, .slice (some ⟨b2,o2,none⟩) n2 q2]:=SV.out.1.step BN.out
  obtain⟨y0,y1⟩:=BV.two
  by_cases hlt:j<nb
  ·obtain⟨d0,d1,d2⟩:=MG.out j wr BW.out hlt
   have RS1:Hid _:=RS.out j hlt
   have hml:=RN.out j
   have BA:Hid (Below wc.heap.size wc (wr.alloc (.cells #[.int .i64 (mO b j), .int .i64 (mK b j), .int .i64 (mV b j)] 31))):=BN.out.alloc BN.out.size _
   have BWA:Hid (Below w.heap.size w (wr.alloc (.cells #[.int .i64 (mO b j), .int .i64 (mK b j), .int .i64 (mV b j)] 31))):=BW.out.alloc BW.out.size _
   have OA:Hid _:=ON.out.alloc (.cells #[.int .i64 (mO b j), .int .i64 (mK b j), .int .i64 (mV b j)] 31)
   have MA:Hid _:=heap_alloc_new wr (.cells #[.int .i64 (mO b j), .int .i64 (mK b j), .int .i64 (mV b j)] 31)
   have KC:Hid _:=KT.out (mK b j) _ BWA.out
   obtain⟨ya0,ya1⟩:=(BV.step (al1 wr (.cells #[.int .i64 (mO b j), .int .i64 (mK b j), .int .i64 (mV b j)] 31))).two
   generalize mO b j=x0 at *
   generalize mK b j=x1 at *
   generalize mV b j=x2 at *
   clear ON BN BW BV;generalize hcn:AN m.2 x1=CN at *
   have hj0:(0:Int)<=(j:Int):=by omega
   have hjn:(j:Int)<(nb:Int):=by omega
   go_wp2_with fail;refine Calls.mono KC.out ?_
   rintro e w1 ⟨rfl,bb1⟩
   have B1:Hid (Below wc.heap.size wc w1):=Below.and BA.out bb1
   have O1:=hid (AJ OA.out bb1)
   have M1:Hid (w1.heap[wr.heap.size]? =some (.cells #[.int .i64 x0, .int .i64 x1, .int .i64 x2] 31 (0,0))):=by
    show _=_
    rw[bb1.block _ (by simp)];exact MA.out
   obtain⟨m0,m1,m2⟩:=Yg M1.out
   clear d0 d1 d2 bb1 BA OA MA BWA KC y0 y1 ya0 ya1;by_cases hq:CN=i
   ·have DS:=hid (RS1.out.trans (if_pos hq))
    have e4:((CN:Int) != (i:Int))=false:=by rw[bne_eq_false_iff_eq];omega
    clear RS1;go_wp2;go_roundw
    case rel=>exact⟨j+1,by omega,by go_num,by rw[DS.out];exact O1,B1⟩
    case measure=>simp[intOf];omega
   ·have DS:=hid (RS1.out.trans (if_neg hq))
    have e4:((CN:Int) != (i:Int))=true:=by rw[bne_iff_ne];omega
    have HR:Hid _:=Bl (n:=(fo j).length) (bytes:=24) (by omega) (by decide)
    have H1:Hid _:=Kr x0 x1 x2
    have hbs:wc.heap.size<=w1.heap.size:=B1.out.size
    have OW:=O1.out
    clear RS1;go_wp2_with (at_builtin;refine BI w1 rfl _ _ 27 rfl wc.heap.size 31 k0 _ 3 24 Tryz.underlying27 hk0 hz0 hz1 hz2 rfl (by decide) u8 _ _ rfl OW [.int .i64 x0, .int .i64 x1, .int .i64 x2] rfl rfl H1.out HR.out.1 HR.out.2 hbs ?_)
    intro v5 w5 o5 _ b5;have FIN:Hid _:=And.intro o5 (B1.out.trans b5)
    clear o5 b5 OW m0 m1 m2;go_wp2;go_roundw
    case rel=>exact⟨j+1,by omega,by go_num,by rw[DS.out,Cc,List.length_append];exact FIN.out.1,FIN.out.2⟩
    case measure=>simp[intOf];omega
  ·have hjj:j=nb:=by omega
   have ON' :Hid (wr.ownsRow wc.heap.size 31 3 u8 (fo nb).length (Al (fo nb))):=by rw[←hjj];exact ON
   have hjn:¬((j:Int)<(nb:Int)):=by omega
   obtain⟨al,ql,hu8,_⟩:=(Row.of_owns ON'.out).len
   subst hu8;have CB2:=CB.out.1.step BN.out
   obtain⟨k0',k1'⟩:=CB2.two
   have CBt:=CB.out.2.1.below BN.out
   have CBr:=CB.out.2.2.below BN.out
   have IP1:Hid _:=IP.out wr (.slice e1 G.1.length p1) (.slice e2 G.2.length p2) BW.out CBt CBr
   have RB:=hid (SV.out.2.1.step BN.out)
   have hsz:=hid (Ca SV.out.2.1)
   clear CB2 CBt CBr hjj;go_wp2_with fail;refine Calls.mono IP1.out ?_
   rintro e w5 ⟨v1,v2,rfl,t1,t2,pb⟩
   obtain⟨f1,g1,hv1,_⟩:=t1.els.choose_spec.2.row.len
   obtain⟨f2,g2,hv2,_⟩:=t2.row.len
   subst hv1 hv2;have RB5:=RB.out.step pb
   obtain⟨n0,n1'⟩:=RB5.two
   obtain⟨f0,f0'⟩:=RB5.free
   have O5:=AJ ON'.out pb
   have hsz2:w.heap.size+2<=wr.heap.size:=by have:=BN.out.size;have:=hsz.out;omega
   have FIN:Hid (∀x y,Ad d (setR w5 (w.heap.size+1) x y) (fun g=>F g∨w.heap.size<=g) (.slice f1 PM.1.length g1) PM.1/\Aj (setR w5 (w.heap.size+1) x y) (fun g=>F g∨w.heap.size<=g) (.slice f2 PM.2.length g2) PM.2.length (Ab PM.2)/\Aj (setR w5 (w.heap.size+1) x y) (fun g=>F g∨w.heap.size<=g) (.slice al (fo nb).length ql) (fo nb).length (Al (fo nb))/\Below w.heap.size w (setR w5 (w.heap.size+1) x y)/\Ai (setR w5 (w.heap.size+1) x y) (w.heap.size+1) #[x,y]):=fun x y=>by
    have D:∀g,((F g/\g<w.heap.size)∨w.heap.size+2<=g)∨wr.heap.size<=g->¬g=w.heap.size+1:=fun g hg e=>by rcases hg with(⟨_,h⟩|h)|h<;>omega
    have M1:∀g,((F g/\g<w.heap.size)∨w.heap.size+2<=g)∨wr.heap.size<=g->F g∨w.heap.size<=g:=fun g hg=>by
     rcases hg with(h|h)|h
     ·exact .inl h.1
     ·exact .inr (by omega)
     ·exact .inr (by omega)
    have o6:=AQ O5 (Av w5 (w.heap.size+1) x y) (fun g hg e=>by have:=(O5.lt g hg).1;have:=hsz.out;omega)
    exact⟨(t1.chg (Av w5 (w.heap.size+1) x y) (fun g hg=>D g hg)).mono M1,(t2.chg (Av w5 (w.heap.size+1) x y) (fun g hg=>D g hg)).mono M1,(Aj.of_owns o6).mono (fun g hg=> .inr (by have:=(o6.lt g hg).1;have:=hsz.out;omega)),((Below.and BW.out pb).setCell (p:=⟨w.heap.size+1,0,none⟩) (Nat.le_succ _) x).setCell (p:=⟨w.heap.size+1,1,none⟩) (Nat.le_succ _) y,RB5.set2 x y⟩
   clear t1 t2 pb RB5 O5 RB ON' IP1 y0 y1 k0' k1' hsz hsz2;go_wp2;obtain⟨q1',q2',q3',q4',q5'⟩:=FIN.out (.slice f1 PM.1.length g1) (.slice f2 PM.2.length g2)
   have Z:=q5'.two
   exact bodyPost_ret (v:= .tuple #[.agg #[.slice f1 PM.1.length g1, .slice f2 PM.2.length g2], .slice al (fo nb).length ql]) (by simp[results,Tryz.results95,go_sem,Z.1,Z.2]) rfl ⟨_,_,_,rfl,q1',q2',q3',q4'⟩
end
end Go.Proofs.YtnakaabnjelffaaGreat
