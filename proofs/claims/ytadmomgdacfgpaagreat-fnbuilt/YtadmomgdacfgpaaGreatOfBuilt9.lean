/-
  The contract of the program's wayDown.
  Contracts of the program's messages behind an interface, and of its sum at the limit.
-/
import Derived.Test.YtadmomgdacfgpaaGreatOfBuilt8
import Derived.Deep.DeepCutAuto
import Derived.Test.YtadmomgdacfgpaaGreatOfBuilt3
import Derived.Test.YtadmomgdacfgpaaGreatOfBuilt1
namespace Go.Proofs.YtadmomgdacfgpaaGreat
set_option maxRecDepth 100000
set_option maxHeartbeats 8000000
section
open Go.RowKit

def SR (m:Nat):Prop:=∀(n:Nat) (x:TV) (T:Tr) (lo hi k:Int) (w0 w:World),AA n w0 x T->Below w0.heap.size w0 w->AK m T lo hi≠0→
 Calls Tryz.prog 48 #[x.val, .int .i64 k] w fun e w' =>∃(y:TV) (v' :Value),e= .returned (.tuple #[y.val,v'])/\AA n w0 y (DO m T k)/\w'.ownsRow w.heap.size 35 3 v' (Dq m T k).length (Af (Dq m T k))/\Below w.heap.size w w'

theorem VJ {P:Program} {ops:Array Oper} {rest:List Oper} {o:Oper} {a:Act} {Q:Exit->Act->World->Prop} (W:World) (B:Nat) (hB:W.heap.size=B) (hgd:o.guard=none) (s x:Operand) (t:TypeId)
  (ho:o.op= .call { callee:= .builtin .append,args:= #[s,x],argTypes:= #[t,t] })
  (base:Nat) (e:TypeId) (i:TypeInfo) (z:Value) (size bytes:Nat) (ht:P.underlying t=some (.slice e)) (hi:P.info? e=some i) (hz:i.zero=some z)
  (hsize:i.size=size) (hby:i.bytes=bytes) (hzs:z.cells.size=size) (hsz:0<size)
  (v:Value) (n:Nat) (xs:List Value) (hs:a.eval s=v) (hown:W.ownsRow base e size v n xs)
  (news:List Value) (hx:a.eval x= .slice (some ⟨B,0,none⟩) 1 1) (hl:news.length=size) (h1:∀u∈news,u.oneCell' =true)
  (h63:n+1<=maxLen) (hbytes:(n+1)*bytes<=140737488355328) (hbase:base<=W.heap.size)
  (h:∀v' w',w'.ownsRow base e size v' (n+1) (xs++news)->Chg (fun g=>v.ownBlock=some g) W w' ->Below base W w' ->wpList P ops Q rest (a.put o.dst v') w') :
  wpList P ops Q (o::rest) a (W.alloc (.cells news.toArray e)):=by
 subst hB;exact Bq W hgd s x t ho base e i z size bytes ht hi hz hsize hby hzs hsz v n xs hs hown news hx hl h1 h63 hbytes hbase h

theorem Sj {w:World} {base n L:Nat} {v:Value} {xs:List Value} {A:Array Value} (h:w.ownsRow base 35 3 v n xs) (hL:Ak w L A):¬v.ownBlock=some L:=by
 intro e;obtain⟨_,⟨h1,_⟩|⟨g,cap,cur,rfl,hg,hh,_⟩⟩:=h
 ·rw[h1] at e;cases e
 ·have:g=L:=by simpa[Value.ownBlock] using e
  subst this;have h2:w.heap[g]? =some (.cells A 30 (0,0)):=hL
  rw[h2] at hh
  simp at hh
theorem Ak.chg {w w' :World} {L:Nat} {A:Array Value} {p:Nat->Prop} (h:Ak w L A) (hc:Chg p w w') (hp:¬p L):Ak w' L A:=
 (hc.block L (Array.getElem?_eq_some_iff.1 h).1 hp).trans h

theorem Bm {u:World} {B:Nat} {x0 x1 x2 x3 x4:Value} (h:Ak u B #[x0,x1,x2,x3,x4]) :
  (u.cell? ⟨B,0,none⟩=some x0/\u.cell? ⟨B,1,none⟩=some x1/\u.cell? ⟨B,2,none⟩=some x2/\u.cell? ⟨B,3,none⟩=some x3/\u.cell? ⟨B,4,none⟩=some x4)∧
  (u.frozen? ⟨B,0,none⟩=false/\u.frozen? ⟨B,1,none⟩=false/\u.frozen? ⟨B,2,none⟩=false/\u.frozen? ⟨B,3,none⟩=false/\u.frozen? ⟨B,4,none⟩=false):=
 ⟨AB h,frozen_of_row u B 0 _ 30 h,frozen_of_row u B 1 _ 30 h,frozen_of_row u B 2 _ 30 h,frozen_of_row u B 3 _ 30 h,frozen_of_row u B 4 _ 30 h⟩

abbrev set5 (u:World) (L:Nat) (t0 t1 t2 t3 t4:Value):World:=((((u.setCell ⟨L,0,none⟩ t0).setCell ⟨L,1,none⟩ t1).setCell ⟨L,2,none⟩ t2).setCell ⟨L,3,none⟩ t3).setCell ⟨L,4,none⟩ t4
theorem Ak.set5 {u:World} {L:Nat} {x0 x1 x2 x3 x4:Value} (h:Ak u L #[x0,x1,x2,x3,x4]) (t0 t1 t2 t3 t4:Value):Ak (set5 u L t0 t1 t2 t3 t4) L #[t0,t1,t2,t3,t4]:=
 heap_setCell_same _ L 4 _ 30 t4 (heap_setCell_same _ L 3 _ 30 t3 (heap_setCell_same _ L 2 _ 30 t2 (heap_setCell_same _ L 1 _ 30 t1 (heap_setCell_same u L 0 _ 30 t0 h))))
theorem Bv (u:World) (L:Nat) (t0 t1 t2 t3 t4:Value):Chg (fun g=>g=L) u (set5 u L t0 t1 t2 t3 t4):=
 (((((Chg.refl (fun g=>g=L) u).setAt L 0 rfl t0).setAt L 1 rfl t1).setAt L 2 rfl t2).setAt L 3 rfl t3).setAt L 4 rfl t4
theorem JI {u:World} {base n L:Nat} {v:Value} {xs:List Value} {A:Array Value} (h:u.ownsRow base 35 3 v n xs) (hL:Ak u L A) (t0 t1 t2 t3 t4:Value):(set5 u L t0 t1 t2 t3 t4).ownsRow base 35 3 v n xs:=
 AN h (Bv u L t0 t1 t2 t3 t4) fun _ hg e=>Sj h hL (e ▸ hg)

theorem IV {m:Nat} (hm6:m<=6) (H:SR m):SR (m+1):=by
 intro n x T lo hi k w0 w ht bw0 hd
 cases n with
 |zero=>exact ht.elim
 |succ n=>
 have TT:Hid (AA (n+1) w0 x T):=ht
 obtain⟨_,_,hcut,hbuf,hkids⟩:=ht.parts
 obtain⟨a1,a2,a3,a4,q1,q2,q3,q4,hx⟩:=ht.shape
 subst hx;simp only at hcut hbuf hkids
 replace hcut:=hcut.below bw0
 replace hbuf:=hbuf.below bw0
 have BW0:Hid (Below w0.heap.size w0 w):=bw0
 clear ht;obtain⟨i0,hi0,hz0,hz1,hz2⟩:=info_parts Tryz.info35
 have B0:Hid (Below w.heap.size w ((w.alloc (.cells #[.bool T.leaf, .slice a1 T.pairs.length q1, .slice a2 T.cuts.length q2, .slice a3 T.kids.length q3, .slice a4 T.buf.length q4] 30)).alloc (.cells #[.bool false, .slice none 0 0, .slice none 0 0, .slice none 0 0, .slice none 0 0] 30))):=((Below.refl _ _).alloc (Nat.le_refl _) _).alloc (by simp) _
 have S0:Hid (Ak ((w.alloc (.cells #[.bool T.leaf, .slice a1 T.pairs.length q1, .slice a2 T.cuts.length q2, .slice a3 T.kids.length q3, .slice a4 T.buf.length q4] 30)).alloc (.cells #[.bool false, .slice none 0 0, .slice none 0 0, .slice none 0 0, .slice none 0 0] 30)) w.heap.size #[.bool T.leaf, .slice a1 T.pairs.length q1, .slice a2 T.cuts.length q2, .slice a3 T.kids.length q3, .slice a4 T.buf.length q4]):=
  (Ak.start w _).step ((Below.refl _ _).alloc (Nat.le_refl _) _)
 have S1:Hid (Ak ((w.alloc (.cells #[.bool T.leaf, .slice a1 T.pairs.length q1, .slice a2 T.cuts.length q2, .slice a3 T.kids.length q3, .slice a4 T.buf.length q4] 30)).alloc (.cells #[.bool false, .slice none 0 0, .slice none 0 0, .slice none 0 0, .slice none 0 0] 30)) (w.heap.size+1) #[.bool false, .slice none 0 0, .slice none 0 0, .slice none 0 0, .slice none 0 0]):=by
  have:=Ak.start (w.alloc (.cells #[.bool T.leaf, .slice a1 T.pairs.length q1, .slice a2 T.cuts.length q2, .slice a3 T.kids.length q3, .slice a4 T.buf.length q4] 30)) #[.bool false, .slice none 0 0, .slice none 0 0, .slice none 0 0, .slice none 0 0]
  rw[World.size_alloc] at this
  exact this
 cases hl:T.leaf
 ·rw[hl] at TT B0 S0 S1
  have hf:=A0 hd hl
  have hqk:=I9 hf.1 k
  have hdk:Hid (AK m (AQ T (Ar T.cuts k)) (Dl T lo (Ar T.cuts k)) (toT T hi (Ar T.cuts k))≠0):=hf.2 _ hqk
  have hml:=Hc k hdk.out
  have PE:Hid (Dq (m+1) T k=Dq m (AQ T (Ar T.cuts k)) k++ofK T.buf k):=by
   show _=_
   rw[Dq,if_neg (by rw[hl];simp)];rfl
  have LE:Hid (DO (m+1) T k=DO m (AQ T (Ar T.cuts k)) k):=by
   show _=_
   rw[DO,if_neg (by rw[hl];simp)];rfl
  have hb6:=(Be hf.1).2.2.2.1
  have HK:Hid (∀w1,Below w.heap.size w w1->Calls Tryz.prog 89 #[.slice a2 T.cuts.length q2, .int .i64 k] w1 fun e w' =>e= .returned (.int .i64 (Ar T.cuts k:Nat))/\Below w1.heap.size w1 w'):=fun w1 hb=>by
   have:=H8 (.slice a2 T.cuts.length q2) T.cuts k w1 (hcut.below hb)
   rw[JH (Qz (Be hf.1).2.2.2.2.2)] at this
   exact this
  obtain⟨xs,hxl,hrow,hk⟩:=hkids
  replace hrow:=hrow.below BW0.out
  obtain⟨a3',b3,off3,cap3,hv3,hcap3,hmax3,ha3,c0,c1,c2,c3,c4⟩:=hrow.trees
  simp only[Value.slice.injEq] at hv3
  obtain⟨rfl,_,rfl⟩:=hv3
  rw[←hxl] at hqk
  have hal:=ha3 (by omega)
  subst hal;have TK:AA n w0 (Az xs (Ar T.cuts k)) (AQ T (Ar T.cuts k)):=hk _ hqk
  obtain⟨r1,r2,r3,r4,s1,s2,s3,s4,hy⟩:=TK.shape
  have d0:=c0 _ hqk
  have d1:=c1 _ hqk
  have d2:=c2 _ hqk
  have d3:=c3 _ hqk
  have d4:=c4 _ hqk
  rw[hy] at d0 d1 d2 d3 d4 TK
  simp only at d0 d1 d2 d3 d4
  have HP:Hid (∀w1,Below w.heap.size w w1->Calls Tryz.prog 48 #[.agg #[.bool (AQ T (Ar T.cuts k)).leaf, .slice r1 (AQ T (Ar T.cuts k)).pairs.length s1, .slice r2 (AQ T (Ar T.cuts k)).cuts.length s2, .slice r3 (AQ T (Ar T.cuts k)).kids.length s3, .slice r4 (AQ T (Ar T.cuts k)).buf.length s4], .int .i64 k] w1 fun e w' =>∃(y:TV) (v' :Value),e= .returned (.tuple #[y.val,v'])/\AA n w0 y (DO m (AQ T (Ar T.cuts k)) k)/\w'.ownsRow w1.heap.size 35 3 v' (Dq m (AQ T (Ar T.cuts k)) k).length (Af (Dq m (AQ T (Ar T.cuts k)) k))/\Below w1.heap.size w1 w'):=
   fun w1 hb=>H n ⟨(AQ T (Ar T.cuts k)).leaf, .slice r1 (AQ T (Ar T.cuts k)).pairs.length s1, .slice r2 (AQ T (Ar T.cuts k)).cuts.length s2, .slice r3 (AQ T (Ar T.cuts k)).kids.length s3, .slice r4 (AQ T (Ar T.cuts k)).buf.length s4⟩ (AQ T (Ar T.cuts k)) _ _ k w0 w1 TK (Below.and BW0.out hb) hdk.out
  clear c0 c1 c2 c3 c4 hk TK hy hdk hf hd TT hcut;rw[PE.out,LE.out]
  clear PE LE;rw[←hxl] at B0 S0 S1 ⊢
  unfold maxLen at hmax3;generalize Dq m (AQ T (Ar T.cuts k)) k=M at *
  generalize DO m (AQ T (Ar T.cuts k)) k=LF at *
  generalize (AQ T (Ar T.cuts k)).leaf=z0 at *
  generalize (AQ T (Ar T.cuts k)).pairs.length=z1 at *
  generalize (AQ T (Ar T.cuts k)).cuts.length=z2 at *
  generalize (AQ T (Ar T.cuts k)).kids.length=z3 at *
  generalize (AQ T (Ar T.cuts k)).buf.length=z4 at *
  generalize Ar T.cuts k=Q at *
  generalize xs.length=n3 at *
  obtain⟨a4',b4,off4,cap4,hv4,hcap4,hmax4,ha4,e0,e1,e2⟩:=hbuf.msgs
  simp only[Value.slice.injEq,true_and] at hv4
  obtain⟨rfl,rfl⟩:=hv4
  unfold maxLen at hmax4;clear hbuf hrow hxl;have OS:Hid (∀i,i<T.buf.length->ofK (T.buf.take (i+1)) k=if mK T.buf i=k then ofK (T.buf.take i) k++[(mO T.buf i,mK T.buf i,mV T.buf i)] else ofK (T.buf.take i) k):=fun i hi=>Vd T.buf k i hi
  have OF:Hid (ofK (T.buf.take T.buf.length) k=ofK T.buf k):=by
   show _=_
   rw[List.take_of_length_le (Nat.le_refl _)]
  have OL:Hid (∀i,(ofK (T.buf.take i) k).length<=6):=fun i=>Nat.le_trans (Mq _ _) (Nat.le_trans (List.length_take_le' _ _) hb6)
  have O0:Hid (ofK (T.buf.take 0) k=[]):=rfl
  generalize ofK T.buf k=BF at *
  generalize hfo:(fun i=>ofK (T.buf.take i) k)=fo at *
  have hfo' :∀i,ofK (T.buf.take i) k=fo i:=fun i=>by rw[←hfo]
  simp only[hfo'] at OS OF OL O0
  clear hfo hfo';generalize T.pairs.length=n1 at *
  generalize T.cuts.length=n2 at *
  generalize hn4:T.buf.length=n4 at *
  show Calls Tryz.prog 48 #[.agg #[.bool false, .slice a1 n1 q1, .slice a2 n2 q2, .slice (some ⟨b3,off3,none⟩) n3 q3, .slice a4 n4 q4], .int .i64 k] w _
  go_enter Tryz.func48,Tryz.ntmps48
  go_upto_region 3 with fail
  refine Ey (fun W=>Ak W w.heap.size #[.bool false, .slice a1 n1 q1, .slice a2 n2 q2, .slice (some ⟨b3,off3,none⟩) n3 q3, .slice a4 n4 q4]/\Ak W (w.heap.size+1) #[.bool false, .slice none 0 0, .slice none 0 0, .slice none 0 0, .slice none 0 0]/\W.heap.size=w.heap.size+1+1/\Below w.heap.size w W) ⟨S0.out,S1.out,by simp,B0.out⟩ ?_
  rintro W ⟨SA,SZ,hsz,BW⟩
  have lt3:b3<w.heap.size:=Aa d0
  have KEEP:Hid (∀w',Below (w.heap.size+2) W w' ->w'.cell? ⟨w.heap.size,0,none⟩=some (.bool false)/\w'.cell? ⟨w.heap.size,1,none⟩=some (.slice a1 n1 q1)/\w'.cell? ⟨w.heap.size,2,none⟩=some (.slice a2 n2 q2)/\w'.cell? ⟨w.heap.size,3,none⟩=some (.slice (some ⟨b3,off3,none⟩) n3 q3)/\w'.cell? ⟨w.heap.size,4,none⟩=some (.slice a4 n4 q4)∧
    w'.cell? ⟨b3,off3+Q*5,none⟩=some (.bool z0)/\w'.cell? ⟨b3,off3+Q*5+1,none⟩=some (.slice r1 z1 s1)/\w'.cell? ⟨b3,off3+Q*5+2,none⟩=some (.slice r2 z2 s2)/\w'.cell? ⟨b3,off3+Q*5+3,none⟩=some (.slice r3 z3 s3)/\w'.cell? ⟨b3,off3+Q*5+4,none⟩=some (.slice r4 z4 s4)/\Hid (Below (w.heap.size+2) W w')):=fun w' hb=>by
   obtain⟨x0,x1,x2,x3,x4⟩:=AB (SA.stepB hb (by omega))
   exact⟨x0,x1,x2,x3,x4,Ab hb (by omega) (Ab BW lt3 d0),Ab hb (by omega) (Ab BW lt3 d1),Ab hb (by omega) (Ab BW lt3 d2),Ab hb (by omega) (Ab BW lt3 d3),Ab hb (by omega) (Ab BW lt3 d4),hb⟩
  have BW' :Hid (Below w.heap.size w W):=BW
  have SA' :Hid (Ak W w.heap.size #[.bool false, .slice a1 n1 q1, .slice a2 n2 q2, .slice (some ⟨b3,off3,none⟩) n3 q3, .slice a4 n4 q4]):=SA
  have SZ' :Hid (Ak W (w.heap.size+1) #[.bool false, .slice none 0 0, .slice none 0 0, .slice none 0 0, .slice none 0 0]):=SZ
  have BA:Hid (∀w',Below (w.heap.size+2) W w' ->Below w.heap.size w w'):=fun w' hb=>BW'.out.trans (hb.mono (by omega))
  have ZS:Hid (W.heap.size=w.heap.size+1+1):=hsz
  have SZB:Hid (∀w',Below (w.heap.size+2) W w' ->w.heap.size+2<=w'.heap.size):=fun w' hb=>Nat.le_trans (by have:=ZS.out;omega) hb.size
  have BS:Hid (∀w' w'',Below (w.heap.size+2) W w' ->Below w'.heap.size w' w'' ->Below (w.heap.size+2) W w''):=fun w' w'' h1 h2=>h1.trans (h2.mono (SZB.out _ h1))
  clear SA SZ hsz BW B0 S0 S1;have hq1:(0:Int)<=(Q:Int):=by omega
  have hq2:(Q:Int)<(n3:Int):=by omega
  have hM:M.length<=36:=by omega
  have KAL:Hid (∀(u:World) (o:Obj),(u.cell? ⟨w.heap.size,0,none⟩=some (.bool false)/\u.cell? ⟨w.heap.size,1,none⟩=some (.slice a1 n1 q1)/\u.cell? ⟨w.heap.size,2,none⟩=some (.slice a2 n2 q2)/\u.cell? ⟨w.heap.size,3,none⟩=some (.slice (some ⟨b3,off3,none⟩) n3 q3)/\u.cell? ⟨w.heap.size,4,none⟩=some (.slice a4 n4 q4)∧
    u.cell? ⟨b3,off3+Q*5,none⟩=some (.bool z0)/\u.cell? ⟨b3,off3+Q*5+1,none⟩=some (.slice r1 z1 s1)/\u.cell? ⟨b3,off3+Q*5+2,none⟩=some (.slice r2 z2 s2)/\u.cell? ⟨b3,off3+Q*5+3,none⟩=some (.slice r3 z3 s3)/\u.cell? ⟨b3,off3+Q*5+4,none⟩=some (.slice r4 z4 s4)/\Hid (Below (w.heap.size+2) W u))->Below (w.heap.size+2) W (u.alloc o)):=fun u o h=>(h.2.2.2.2.2.2.2.2.2.2.out).alloc (SZB.out _ h.2.2.2.2.2.2.2.2.2.2.out) o
  have KB:Hid (∀(u:World),(u.cell? ⟨w.heap.size,0,none⟩=some (.bool false)/\u.cell? ⟨w.heap.size,1,none⟩=some (.slice a1 n1 q1)/\u.cell? ⟨w.heap.size,2,none⟩=some (.slice a2 n2 q2)/\u.cell? ⟨w.heap.size,3,none⟩=some (.slice (some ⟨b3,off3,none⟩) n3 q3)/\u.cell? ⟨w.heap.size,4,none⟩=some (.slice a4 n4 q4)∧
    u.cell? ⟨b3,off3+Q*5,none⟩=some (.bool z0)/\u.cell? ⟨b3,off3+Q*5+1,none⟩=some (.slice r1 z1 s1)/\u.cell? ⟨b3,off3+Q*5+2,none⟩=some (.slice r2 z2 s2)/\u.cell? ⟨b3,off3+Q*5+3,none⟩=some (.slice r3 z3 s3)/\u.cell? ⟨b3,off3+Q*5+4,none⟩=some (.slice r4 z4 s4)/\Hid (Below (w.heap.size+2) W u))->Below (w.heap.size+2) W u):=fun u h=>h.2.2.2.2.2.2.2.2.2.2.out
  have K5:Hid (∀(u:World) (L:Nat) (t0 t1 t2 t3 t4:Value),w.heap.size+2<=L->(u.cell? ⟨w.heap.size,0,none⟩=some (.bool false)/\u.cell? ⟨w.heap.size,1,none⟩=some (.slice a1 n1 q1)/\u.cell? ⟨w.heap.size,2,none⟩=some (.slice a2 n2 q2)/\u.cell? ⟨w.heap.size,3,none⟩=some (.slice (some ⟨b3,off3,none⟩) n3 q3)/\u.cell? ⟨w.heap.size,4,none⟩=some (.slice a4 n4 q4)/\u.cell? ⟨b3,off3+Q*5,none⟩=some (.bool z0)/\u.cell? ⟨b3,off3+Q*5+1,none⟩=some (.slice r1 z1 s1)/\u.cell? ⟨b3,off3+Q*5+2,none⟩=some (.slice r2 z2 s2)/\u.cell? ⟨b3,off3+Q*5+3,none⟩=some (.slice r3 z3 s3)/\u.cell? ⟨b3,off3+Q*5+4,none⟩=some (.slice r4 z4 s4)/\Hid (Below (w.heap.size+2) W u))->Below (w.heap.size+2) W (((((u.setCell ⟨L,0,none⟩ t0).setCell ⟨L,1,none⟩ t1).setCell ⟨L,2,none⟩ t2).setCell ⟨L,3,none⟩ t3).setCell ⟨L,4,none⟩ t4)):=
   fun u L _ _ _ _ _ hL h=>(((((KB.out u h).setCell (p:=⟨L,0,none⟩) hL _).setCell (p:=⟨L,1,none⟩) hL _).setCell (p:=⟨L,2,none⟩) hL _).setCell (p:=⟨L,3,none⟩) hL _).setCell (p:=⟨L,4,none⟩) hL _
  have hW2:w.heap.size+2<=W.heap.size:=by have:=ZS.out;omega
  clear d0 d1 d2 d3 d4;go_cut [6,7] (fun s6 s7 wx=>∃(L:Nat) (y:TV),s6= .pointer (some ⟨L,0,none⟩)/\w.heap.size+2<=L/\Hid (AA n w0 y LF)/\Hid (Ak wx L #[.bool y.lf,y.p,y.c,y.k,y.b])/\Hid (wx.ownsRow (w.heap.size+2) 35 3 s7 M.length (Af M))/\Hid (Below (w.heap.size+2) W wx))
  case first=>
   have S1:=KEEP.out W.drew (Below.refl _ _).drew
   have T1:=KEEP.out W (Below.refl _ _)
   have SD1:=KEEP.out (W.alloc (.cells #[.bool false, .slice none 0 0, .slice none 0 0, .slice none 0 0, .slice none 0 0] 30)).drew ((Below.refl _ _).alloc hW2 _).drew
   go_region_held3 (fun w' =>w'.cell? ⟨w.heap.size,0,none⟩=some (.bool false)/\w'.cell? ⟨w.heap.size,1,none⟩=some (.slice a1 n1 q1)/\w'.cell? ⟨w.heap.size,2,none⟩=some (.slice a2 n2 q2)/\w'.cell? ⟨w.heap.size,3,none⟩=some (.slice (some ⟨b3,off3,none⟩) n3 q3)/\w'.cell? ⟨w.heap.size,4,none⟩=some (.slice a4 n4 q4)∧
     w'.cell? ⟨b3,off3+Q*5,none⟩=some (.bool z0)/\w'.cell? ⟨b3,off3+Q*5+1,none⟩=some (.slice r1 z1 s1)/\w'.cell? ⟨b3,off3+Q*5+2,none⟩=some (.slice r2 z2 s2)/\w'.cell? ⟨b3,off3+Q*5+3,none⟩=some (.slice r3 z3 s3)/\w'.cell? ⟨b3,off3+Q*5+4,none⟩=some (.slice r4 z4 s4)/\Hid (Below (w.heap.size+2) W w')) (first|(with_reducible assumption)|(with_reducible (exact KEEP.out _ (KAL.out _ _ (by assumption))))|(with_reducible (exact KEEP.out _ (K5.out _ _ _ _ _ _ _ (by assumption) (by assumption))))) (first
    |(go_at_call 89;refine(HK.out _ (BA.out _ (KB.out _ (by assumption)))).mono ?_;rintro e w2 ⟨rfl,b2⟩;have S2:=KEEP.out w2 (BS.out _ _ (KB.out _ (by assumption)) b2);have hW3:w.heap.size+2<=w2.heap.size:=SZB.out _ (KB.out _ S2);(try (have P2:Hid (Ak w2 W.heap.size #[.bool false, .slice none 0 0, .slice none 0 0, .slice none 0 0, .slice none 0 0]):=((Ak.start W _).step (Below.refl _ _).drew).step b2));clear b2)
    |(go_at_call 48;refine(HP.out _ (BA.out _ (KB.out _ (by assumption)))).mono ?_;rintro e w3 ⟨y,v3,rfl,ty,o3,bb3⟩;obtain⟨y1,y2,y3,y4,p1,p2,p3,p4,hy⟩:=ty.shape;subst hy;have S3:=KEEP.out w3 (BS.out _ _ (KB.out _ (by assumption)) bb3);(first|(have P3:Hid (Ak w3 w2.heap.size #[.bool false, .slice none 0 0, .slice none 0 0, .slice none 0 0, .slice none 0 0]):=(Ak.start w2 _).step bb3;obtain⟨⟨m0,m1,m2,m3,m4⟩,f0,f1,f2,f3,f4⟩:=Bm P3.out)|(have P3:Hid (Ak w3 W.heap.size #[.bool false, .slice none 0 0, .slice none 0 0, .slice none 0 0, .slice none 0 0]):=P2.out.step bb3;obtain⟨⟨m0,m1,m2,m3,m4⟩,f0,f1,f2,f3,f4⟩:=Bm P3.out)|skip);have BB3:Hid _:=bb3;have O3:Hid _:=o3;have TY:Hid _:=ty;clear bb3 o3 ty))
   ·have FIN:Hid (w.heap.size+2<=w3.heap.size/\Below (w.heap.size+2) W w3):=⟨SZB.out _ (KB.out _ S3),KB.out _ S3⟩
    have O3' :Hid (w3.ownsRow (w.heap.size+2) 35 3 v3 M.length (Af M)):=AE O3.out (SZB.out _ (KB.out _ S2))
    clear S1 T1 SD1 S2 S3;go_wp2_with fail;go_meet
    case rel=>exact⟨w3.heap.size,_,rfl,FIN.out.1,TY,Ak.start w3 _,O3'.out.alloc _,FIN.out.2.alloc FIN.out.1 _⟩
   ·have FIN:Hid (Below (w.heap.size+2) W w3):=KB.out _ S3
    have O3' :Hid (w3.ownsRow (w.heap.size+2) 35 3 v3 M.length (Af M)):=AE O3.out (by simp;omega)
    clear S1 T1 SD1 S2 S3;go_wp2_with fail;go_meet
    case rel=>exact⟨w2.heap.size,_,rfl,hW3,TY,P3.out.set5 _ _ _ _ _,JI O3'.out P3.out _ _ _ _ _,((((FIN.out.setCell (p:=⟨_,0,none⟩) hW3 _).setCell (p:=⟨_,1,none⟩) hW3 _).setCell (p:=⟨_,2,none⟩) hW3 _).setCell (p:=⟨_,3,none⟩) hW3 _).setCell (p:=⟨_,4,none⟩) hW3 _⟩
   ·have FIN:Hid (Below (w.heap.size+2) W w3):=KB.out _ S3
    have O3' :Hid (w3.ownsRow (w.heap.size+2) 35 3 v3 M.length (Af M)):=AE O3.out hW3
    clear S1 T1 SD1 S2 S3;go_wp2_with fail;go_meet
    case rel=>exact⟨W.heap.size,_,rfl,hW2,TY,P3.out.set5 _ _ _ _ _,JI O3'.out P3.out _ _ _ _ _,((((FIN.out.setCell (p:=⟨_,0,none⟩) hW2 _).setCell (p:=⟨_,1,none⟩) hW2 _).setCell (p:=⟨_,2,none⟩) hW2 _).setCell (p:=⟨_,3,none⟩) hW2 _).setCell (p:=⟨_,4,none⟩) hW2 _⟩
  case rest=>
   obtain⟨L,y,rfl,hL2,TY,SL,OM,BM⟩:=hcut
   obtain⟨y1,y2,y3,y4,p1,p2,p3,p4,hy⟩:=TY.out.shape
   subst hy;simp only at SL
   obtain⟨g0,g1,g2,g3,g4,_⟩:=KEEP.out wc BM.out
   generalize LF.leaf=yl at *
   generalize LF.pairs.length=l1 at *
   generalize LF.cuts.length=l2 at *
   generalize LF.kids.length=l3 at *
   generalize LF.buf.length=l4 at *
   clear KAL K5 HK HP;go_wp2;go_loopw [7,29] (fun out i wr=>∃j:Nat,j<=n4/\i= .int .i64 j/\Hid (wr.ownsRow (w.heap.size+2) 35 3 out (M++fo j).length (Af (M++fo j)))/\Hid (Ak wr L #[.bool yl, .slice y1 l1 p1, .slice y2 l2 p2, .slice y3 l3 p3, .slice y4 l4 p4])/\Hid (Below (w.heap.size+2) W wr))
    (fun _ i _=>n4-(intOf i).toNat)
   case atStart=>exact⟨0,Nat.zero_le _,rfl,by rw[O0.out,List.append_nil];exact OM,SL,BM⟩
   case round=>
    obtain⟨j,hj,rfl,ON,SN,BN⟩:=hrel
    clear OM SL BM g0 g1 g2 g3 g4;by_cases hlt:j<n4
    ·have hal:=ha4 (by omega)
     subst hal;have t0:=Ab (BA.out _ BN.out) (Aa (e0 j hlt)) (e0 j hlt)
     have t1:=Ab (BA.out _ BN.out) (Aa (e1 j hlt)) (e1 j hlt)
     have t2:=Ab (BA.out _ BN.out) (Aa (e2 j hlt)) (e2 j hlt)
     have OS1:Hid _:=OS.out j hlt
     have hol:=OL.out j
     have hbs:w.heap.size+2<=wr.heap.size:=SZB.out _ BN.out
     clear e0 e1 e2 ha4;by_cases hq:mK T.buf j=k
     ·have DS:Hid (fo (j+1)=fo j++[(mO T.buf j,mK T.buf j,mV T.buf j)]):=OS1.out.trans (if_pos hq)
      have e4:(mK T.buf j==k)=true:=by simp[hq]
      have HR:Hid _:=Bd (n:=(M++fo j).length) (bytes:=24) (by rw[List.length_append];omega) (by decide)
      have H1:Hid _:=Ia (mO T.buf j) (mK T.buf j) (mV T.buf j)
      have OW:=ON.out.alloc (.cells #[.int .i64 (mO T.buf j), .int .i64 (mK T.buf j), .int .i64 (mV T.buf j)] 35)
      have SW:Hid (Ak (wr.alloc (.cells #[.int .i64 (mO T.buf j), .int .i64 (mK T.buf j), .int .i64 (mV T.buf j)] 35)) L _):=SN.out.step ((Below.refl _ _).alloc (Nat.le_refl _) _)
      have BW5:Hid (Below (w.heap.size+2) W (wr.alloc (.cells #[.int .i64 (mO T.buf j), .int .i64 (mK T.buf j), .int .i64 (mV T.buf j)] 35))):=BN.out.alloc hbs _
      have hsz1:(wr.alloc (.cells #[.int .i64 (mO T.buf j), .int .i64 (mK T.buf j), .int .i64 (mV T.buf j)] 35)).heap.size=wr.heap.size+1:=World.size_alloc _ _
      have HBS:Hid (w.heap.size+2<=(wr.alloc (.cells #[.int .i64 (mO T.buf j), .int .i64 (mK T.buf j), .int .i64 (mV T.buf j)] 35)).heap.size):=SZB.out _ BW5.out
      generalize mO T.buf j=x0 at *
      generalize mK T.buf j=x1 at *
      generalize mV T.buf j=x2 at *
      clear OS1 hq hol;go_wp2_with (at_builtin;refine VJ (wr.alloc (.cells #[.int .i64 x0, .int .i64 x1, .int .i64 x2] 35)) (wr.heap.size+1) hsz1 rfl _ _ 24 rfl (w.heap.size+2) 35 i0 _ 3 24 Tryz.underlying24 hi0 hz0 hz1 hz2 rfl (by decide) u7 _ _ rfl OW [.int .i64 x0, .int .i64 x1, .int .i64 x2] rfl rfl H1.out HR.out.1 HR.out.2 HBS.out ?_)
      intro v5 w5 o5 c5 b5;have FIN:Hid _:=And.intro o5 (And.intro (SW.out.chg c5 (Sj OW SW.out)) (BW5.out.trans b5))
      clear o5 b5 c5 OW t0 t1 t2 SW BW5;go_wp2;go_roundw
      case rel=>exact⟨j+1,by omega,by go_num,by rw[DS.out, ← List.append_assoc,Cf,List.length_append,List.length_append];exact FIN.out.1,FIN.out.2.1,FIN.out.2.2⟩
      case measure=>simp[intOf];omega
     ·have DS:Hid (fo (j+1)=fo j):=OS1.out.trans (if_neg hq)
      have e4:(mK T.buf j==k)=false:=by rw[beq_eq_false_iff_ne];exact hq
      clear OS1 hq hol;go_wp2;go_roundw
      case rel=>exact⟨j+1,by omega,by go_num,by rw[DS.out];exact ON.out.alloc _,SN.out.step ((Below.refl _ _).alloc (Nat.le_refl _) _),BN.out.alloc hbs _⟩
      case measure=>simp[intOf];omega
    ·have hjj:j=n4:=by omega
     subst hjj;clear e0 e1 e2 ha4;have SZ2:Hid (Ak wr (w.heap.size+1) _):=SZ'.out.stepB BN.out (by omega)
     obtain⟨⟨m0,m1,m2,m3,m4⟩,f0,f1,f2,f3,f4⟩:=Bm SZ2.out
     obtain⟨t0,t1,t2,t3,t4⟩:=AB SN.out
     obtain⟨k0,k1,k2,k3,k4⟩:=AB (SZ2.out.set5 (.bool yl) (.slice y1 l1 p1) (.slice y2 l2 p2) (.slice y3 l3 p3) (.slice y4 l4 p4))
     have OFI:Hid (wr.ownsRow (w.heap.size+2) 35 3 u7 (M++BF).length (Af (M++BF))):=by
      have:=ON.out
      rw[OF.out] at this
      exact this
     have OF2:Hid (World.ownsRow (set5 wr (w.heap.size+1) (.bool yl) (.slice y1 l1 p1) (.slice y2 l2 p2) (.slice y3 l3 p3) (.slice y4 l4 p4)) w.heap.size 35 3 u7 (M++BF).length (Af (M++BF))):=AE (JI OFI.out SZ2.out _ _ _ _ _) (by omega)
     have BF2:Hid (Below w.heap.size w (set5 wr (w.heap.size+1) (.bool yl) (.slice y1 l1 p1) (.slice y2 l2 p2) (.slice y3 l3 p3) (.slice y4 l4 p4))):=
      (((((BA.out _ BN.out).setCell (p:=⟨_,0,none⟩) (Nat.le_succ _) _).setCell (p:=⟨_,1,none⟩) (Nat.le_succ _) _).setCell (p:=⟨_,2,none⟩) (Nat.le_succ _) _).setCell (p:=⟨_,3,none⟩) (Nat.le_succ _) _).setCell (p:=⟨_,4,none⟩) (Nat.le_succ _) _
     clear ON SN BN;go_wp2;exact bodyPost_ret (v:= .tuple #[.agg #[.bool yl, .slice y1 l1 p1, .slice y2 l2 p2, .slice y3 l3 p3, .slice y4 l4 p4],u7]) (by simp[results,Tryz.results48,go_sem,k0,k1,k2,k3,k4]) rfl ⟨⟨yl, .slice y1 l1 p1, .slice y2 l2 p2, .slice y3 l3 p3, .slice y4 l4 p4⟩,u7,rfl,TY.out.up,OF2.out,BF2.out⟩
 ·have TT' :Hid (AA (n+1) w0 ⟨T.leaf, .slice a1 T.pairs.length q1, .slice a2 T.cuts.length q2, .slice a3 T.kids.length q3, .slice a4 T.buf.length q4⟩ (DO (m+1) T k)):=by
   rw[DO,if_pos hl];exact TT.out
  rw[hl] at B0 S0 S1 TT'
  have PE:Hid (Dq (m+1) T k=[]):=by
   show _=_
   rw[Dq,if_pos hl]
  rw[PE.out]
  generalize DO (m+1) T k=LF at *
  generalize T.pairs.length=n1 at *
  generalize T.cuts.length=n2 at *
  generalize T.kids.length=n3 at *
  generalize T.buf.length=n4 at *
  clear hbuf hkids hcut TT;show Calls Tryz.prog 48 #[.agg #[.bool true, .slice a1 n1 q1, .slice a2 n2 q2, .slice a3 n3 q3, .slice a4 n4 q4], .int .i64 k] w _
  have ST:Hid (Ak ((w.alloc (.cells #[.bool true, .slice a1 n1 q1, .slice a2 n2 q2, .slice a3 n3 q3, .slice a4 n4 q4] 30)).alloc (.cells #[.bool true, .slice a1 n1 q1, .slice a2 n2 q2, .slice a3 n3 q3, .slice a4 n4 q4] 30)) (w.heap.size+1) #[.bool true, .slice a1 n1 q1, .slice a2 n2 q2, .slice a3 n3 q3, .slice a4 n4 q4]):=by
   have:=Ak.start (w.alloc (.cells #[.bool true, .slice a1 n1 q1, .slice a2 n2 q2, .slice a3 n3 q3, .slice a4 n4 q4] 30)) #[.bool true, .slice a1 n1 q1, .slice a2 n2 q2, .slice a3 n3 q3, .slice a4 n4 q4]
   rw[World.size_alloc] at this
   exact this
  go_enter Tryz.func48,Tryz.ntmps48
  go_wp2;obtain⟨m0,m1,m2,m3,m4⟩:=AB ST.out
  exact bodyPost_ret (v:= .tuple #[.agg #[.bool true, .slice a1 n1 q1, .slice a2 n2 q2, .slice a3 n3 q3, .slice a4 n4 q4], .slice none 0 0]) (by simp[results,Tryz.results48,go_sem]) rfl ⟨⟨true, .slice a1 n1 q1, .slice a2 n2 q2, .slice a3 n3 q3, .slice a4 n4 q4⟩,_,rfl,TT'.out,World.ownsRow_nil _ _ _ _,((Below.refl _ _).alloc (Nat.le_refl _) _).alloc (by simp) _⟩

theorem Xb:SR 0:=fun _ _ _ _ _ _ _ _ _ _ h=>absurd rfl h
theorem Xg:SR 7:=IV (by decide) (IV (by decide) (IV (by decide) (IV (by decide) (IV (by decide) (IV (by decide) (IV (by decide) Xb))))))
end
section
open Go.RowKit

theorem U2 (x:Int):max (-1000000000) (min 1000000000 x)=Bj x:=by
 unfold Bj;split<;>(try split)<;>omega
theorem H7 (a b:Int) (w:World) (ha0: -1000000000<=a) (ha1:a<=1000000000) (hb0: -1000000000<=b) (hb1:b<=1000000000) :
  Calls Tryz.prog 106 #[.int .i64 a, .int .i64 b] w fun e w' =>e= .returned (.int .i64 (Bj (a+b)))/\w' =w:=by
 have E:Hid (max (-1000000000) (min 1000000000 (a+b))=Bj (a+b)):=U2 _
 go_enter Tryz.func106,Tryz.ntmps106
 go_wp2;go_ret;exact⟨Bn E.out,rfl⟩

def Cq (m:Int × Int × Int):Value:=
 if m.1=1 then .iface 142 (.agg #[.int .i64 m.2.1, .int .i64 m.2.2]) else if m.1=2 then .iface 144 (.agg #[.int .i64 m.2.1]) else if m.1=3 then .iface 146 (.agg #[.int .i64 m.2.1, .int .i64 m.2.2]) else .iface 149 (.agg #[.int .i64 m.2.1])
theorem IF (m:Int × Int × Int):∃t x,Cq m= .iface t x:=by unfold Cq;split<;>(try split)<;>(try split)<;>exact⟨_,_,rfl⟩
theorem Vu (m:Int × Int × Int):(Cq m).oneCell' =true:=by
 obtain⟨t,x,h⟩:=IF m;rw[h];rfl

theorem OE (o k v:Int) (w:World) :
  Calls Tryz.prog 103 #[.agg #[.int .i64 o, .int .i64 k, .int .i64 v]] w fun e w' =>e= .returned (Cq (o,k,v))/\Below w.heap.size w w' :=by
 rcases(show o=1∨o=2∨o=3∨(o≠1/\o≠2/\o≠3) from by omega) with rfl|rfl|rfl|⟨h1,h2,h3⟩
 ·have E:Hid (Cq (1,k,v)= .iface 142 (.agg #[.int .i64 k, .int .i64 v])):=rfl
  go_enter Tryz.func103,Tryz.ntmps103
  go_wp2;go_ret;exact⟨by rw[E.out];rfl,(Below.refl _ _).alloc (Nat.le_refl _) _⟩
 ·have E:Hid (Cq (2,k,v)= .iface 144 (.agg #[.int .i64 k])):=rfl
  go_enter Tryz.func103,Tryz.ntmps103
  go_wp2;go_ret;exact⟨by rw[E.out];rfl,(Below.refl _ _).alloc (Nat.le_refl _) _⟩
 ·have E:Hid (Cq (3,k,v)= .iface 146 (.agg #[.int .i64 k, .int .i64 v])):=rfl
  go_enter Tryz.func103,Tryz.ntmps103
  go_wp2;go_ret;exact⟨by rw[E.out];rfl,(Below.refl _ _).alloc (Nat.le_refl _) _⟩
 ·have E:Hid (Cq (o,k,v)= .iface 149 (.agg #[.int .i64 k])):=by show Cq _=_;simp[Cq,h1,h2,h3]
  have q1:(o==1)=false:=by simpa using h1
  have q2:(o==2)=false:=by simpa using h2
  have q3:(o==3)=false:=by simpa using h3
  clear h1 h2 h3;go_enter Tryz.func103,Tryz.ntmps103
  go_wp2;go_ret;exact⟨by rw[E.out];rfl,(Below.refl _ _).alloc (Nat.le_refl _) _⟩

theorem Li (k v:Int) (w:World):(Instr.typeAssert (.iface 142 (.agg #[.int .i64 k, .int .i64 v])) 107 142 true).run Tryz.prog w= .ok (.tuple #[.agg #[.int .i64 k, .int .i64 v], .bool true]) w:=by kernel_rfl
theorem T8 (k v:Int) (w:World):(Instr.typeAssert (.iface 142 (.agg #[.int .i64 k, .int .i64 v])) 107 144 true).run Tryz.prog w= .ok (.tuple #[.agg #[.int .i64 0], .bool false]) w:=by kernel_rfl
theorem UU (k v:Int) (w:World):(Instr.typeAssert (.iface 142 (.agg #[.int .i64 k, .int .i64 v])) 107 149 true).run Tryz.prog w= .ok (.tuple #[.agg #[.int .i64 0], .bool false]) w:=by kernel_rfl
theorem JK (k:Int) (w:World):(Instr.typeAssert (.iface 144 (.agg #[.int .i64 k])) 107 142 true).run Tryz.prog w= .ok (.tuple #[.agg #[.int .i64 0, .int .i64 0], .bool false]) w:=by kernel_rfl
theorem LI (k:Int) (w:World):(Instr.typeAssert (.iface 144 (.agg #[.int .i64 k])) 107 144 true).run Tryz.prog w= .ok (.tuple #[.agg #[.int .i64 k], .bool true]) w:=by kernel_rfl
theorem Rs (k:Int) (w:World):(Instr.typeAssert (.iface 144 (.agg #[.int .i64 k])) 107 146 true).run Tryz.prog w= .ok (.tuple #[.agg #[.int .i64 0, .int .i64 0], .bool false]) w:=by kernel_rfl
theorem Ru (k:Int) (w:World):(Instr.typeAssert (.iface 144 (.agg #[.int .i64 k])) 107 149 true).run Tryz.prog w= .ok (.tuple #[.agg #[.int .i64 0], .bool false]) w:=by kernel_rfl
theorem Jw (k v:Int) (w:World):(Instr.typeAssert (.iface 146 (.agg #[.int .i64 k, .int .i64 v])) 107 142 true).run Tryz.prog w= .ok (.tuple #[.agg #[.int .i64 0, .int .i64 0], .bool false]) w:=by kernel_rfl
theorem LG (k v:Int) (w:World):(Instr.typeAssert (.iface 146 (.agg #[.int .i64 k, .int .i64 v])) 107 144 true).run Tryz.prog w= .ok (.tuple #[.agg #[.int .i64 0], .bool false]) w:=by kernel_rfl
theorem Lo (k v:Int) (w:World):(Instr.typeAssert (.iface 146 (.agg #[.int .i64 k, .int .i64 v])) 107 146 true).run Tryz.prog w= .ok (.tuple #[.agg #[.int .i64 k, .int .i64 v], .bool true]) w:=by kernel_rfl
theorem Q8 (k v:Int) (w:World):(Instr.typeAssert (.iface 146 (.agg #[.int .i64 k, .int .i64 v])) 107 149 true).run Tryz.prog w= .ok (.tuple #[.agg #[.int .i64 0], .bool false]) w:=by kernel_rfl
theorem Jz (k:Int) (w:World):(Instr.typeAssert (.iface 149 (.agg #[.int .i64 k])) 107 142 true).run Tryz.prog w= .ok (.tuple #[.agg #[.int .i64 0, .int .i64 0], .bool false]) w:=by kernel_rfl
theorem Mk (k:Int) (w:World):(Instr.typeAssert (.iface 149 (.agg #[.int .i64 k])) 107 144 true).run Tryz.prog w= .ok (.tuple #[.agg #[.int .i64 0], .bool false]) w:=by kernel_rfl
theorem Mi (k:Int) (w:World):(Instr.typeAssert (.iface 149 (.agg #[.int .i64 k])) 107 146 true).run Tryz.prog w= .ok (.tuple #[.agg #[.int .i64 0, .int .i64 0], .bool false]) w:=by kernel_rfl
theorem Lg (k:Int) (w:World):(Instr.typeAssert (.iface 149 (.agg #[.int .i64 k])) 107 149 true).run Tryz.prog w= .ok (.tuple #[.agg #[.int .i64 k], .bool true]) w:=by kernel_rfl

theorem Tryz.info107:(Tryz.prog.info? 107).map (fun i=>(i.zero,i.size,i.bytes))=some (some .nilIface,1,16):=by kernel_rfl

def okM (m:Int × Int × Int):Bool:=AO m.1 m.2.1 m.2.2
def BP (ms:ML):ML:=ms.filter okM
theorem UA (ms:ML) (k:Nat) (h:k<ms.length):BP (ms.take (k+1))=if AO (mO ms k) (mK ms k) (mV ms k)=true then BP (ms.take k)++[(mO ms k,mK ms k,mV ms k)] else BP (ms.take k):=by
 rw[DA ms k h,BP,List.filter_append]
 by_cases hm:AO (mO ms k) (mK ms k) (mV ms k)=true
 ·simp[hm,BP,okM]
 ·simp[hm,BP,okM]
theorem Hy (ms:ML):(BP ms).length<=ms.length:=List.length_filter_le _ _

theorem Ir (vm:Value) (ms:ML) (w:World) (hm:Row w vm ms.length (Af ms)) (hn:ms.length<=2097152) :
  Calls Tryz.prog 68 #[vm] w fun e w' =>∃v',e= .returned v' ∧w'.ownsRow w.heap.size 107 1 v' (BP ms).length ((BP ms).map Cq)/\Below w.heap.size w w' :=by
 obtain⟨i0,hi,hz0,hz1,hz2⟩:=info_parts Tryz.info107
 obtain⟨a,b,off,cap,rfl,hcap,hmax,ha,ho,hk,hv⟩:=hm.msgs
 unfold maxLen at hmax;go_enter Tryz.func68,Tryz.ntmps68
 go_wp2;go_loopw [3,8] (fun out i wr=>∃k:Nat,k<=ms.length/\i= .int .i64 k/\wr.ownsRow w.heap.size 107 1 out (BP (ms.take k)).length ((BP (ms.take k)).map Cq)/\Below w.heap.size w wr)
  (fun _ i _=>ms.length-(intOf i).toNat)
 case atStart=>exact⟨0,Nat.zero_le _,rfl,World.ownsRow_nil _ _ _ _,Below.refl _ _⟩
 case round=>
  obtain⟨k,hkl,rfl,hown,hb⟩:=hrel
  by_cases hlt:k<ms.length
  ·have hal:=ha (by omega)
   subst hal;have d0:=(hb.cell (by exact Aa (ho k hlt))).trans (ho k hlt)
   have d1:=(hb.cell (by exact Aa (hk k hlt))).trans (hk k hlt)
   have d2:=(hb.cell (by exact Aa (hv k hlt))).trans (hv k hlt)
   have hds:=UA ms k hlt
   have hal:=Hy (ms.take k)
   have htl:(ms.take k).length<=k:=List.length_take_le _ _
   generalize BP (ms.take k)=A at *
   have ba:Below w.heap.size w (wr.alloc (.cells #[.int .i64 (mO ms k), .int .i64 (mK ms k), .int .i64 (mV ms k)] 35)):=hb.alloc hb.size _
   have OW:Hid (wr.ownsRow w.heap.size 107 1 u3 A.length (A.map Cq)):=hown
   clear ho hk hv hown hm
   cases hq:AO (mO ms k) (mK ms k) (mV ms k)
   ·have DS:Hid _:=hds.trans (if_neg (by rw[hq];decide))
    clear hds;go_wp2_with fail;refine(Di _ _ _ _).mono ?_
    rw[hq]
    rintro e w1 ⟨rfl,b1⟩
    have B1:=ba.trans (b1.mono ba.size)
    have OW1:=AJ (OW.out.alloc (.cells #[.int .i64 (mO ms k), .int .i64 (mK ms k), .int .i64 (mV ms k)] 35)) b1
    clear b1 ba hq;go_wp2;go_roundw
    case rel=>exact⟨k+1,by omega,by go_num,by rw[DS.out];exact OW1,B1⟩
    case measure=>simp[intOf];omega
   ·have DS:Hid _:=hds.trans (if_pos hq)
    clear hds;go_wp2_with fail;refine(Di _ _ _ _).mono ?_
    rw[hq]
    rintro e w1 ⟨rfl,b1⟩
    have B1:=ba.trans (b1.mono ba.size)
    have OW1:=AJ (OW.out.alloc (.cells #[.int .i64 (mO ms k), .int .i64 (mK ms k), .int .i64 (mV ms k)] 35)) b1
    obtain⟨hc,_⟩:=Ql b1
    have b1' :Hid _:=b1
    have OW1' :Hid (w1.ownsRow w.heap.size 107 1 u3 A.length (A.map Cq)):=OW1
    clear b1 ba hq OW1 OW;go_wp2_with fail;refine(OE _ _ _ _).mono ?_
    rintro e w2 ⟨rfl,b2⟩
    have B2:=B1.trans (b2.mono B1.size)
    have B2s:=B2.size
    have OW2:=AJ OW1'.out b2
    obtain⟨t,x,hx⟩:=IF (mO ms k,mK ms k,mV ms k)
    have HX:Hid _:=hx
    have HE:Hid _:=Vu (mO ms k,mK ms k,mV ms k)
    rw[hx]
    clear hx hc b1' OW1' b2 B1;have HR:Hid _:=Bd (n:=A.length) (bytes:=16) (by omega) (by decide)
    have H1:Hid (∀u∈[Value.iface t x],u.oneCell' =true):=fun u hu=>by simp at hu;subst hu;rfl
    go_wp2_with (at_builtin;refine Bq w2 rfl _ _ 104 rfl w.heap.size 107 i0 _ 1 16 Tryz.underlying104 hi hz0 hz1 hz2 rfl (by decide) u3 _ _ rfl OW2 [.iface t x] rfl rfl H1.out HR.out.1 HR.out.2 B2s ?_)
    intro v3 w3 ho3 _ hb3;have B3:=B2.trans hb3
    clear OW2 hb3 B2;go_wp2;go_roundw
    case rel=>exact⟨k+1,by omega,by go_num,by rw[DS.out,List.length_append,List.map_append,List.map_cons,HX.out];exact ho3,B3⟩
    case measure=>simp[intOf];omega
  ·go_wp2;go_ret;have hkk:k=ms.length:=by omega
   subst hkk;rw[List.take_of_length_le (Nat.le_refl _)] at hown
   exact⟨_,rfl,hown,hb⟩
end
end Go.Proofs.YtadmomgdacfgpaaGreat
