/-
  Nodes in memory of their own: each list in a stretch of blocks of its own.
  The laws' functions that write marks into a machine, and look for them.
  LogOk of both sides.
  LastOf and Newer of both sides.
  TermAt of both sides, and where an entry stands (placeOf).
  Parts of a list of entries: a slice of it leads to a part of it.
  markLog, heldLog; what marks leave as it is.
  The laws' functions that write marks into a node, and look for them.
-/
import Derived.Test.YtkcaelfkcepdkaaGreatOfNote21
import Derived.Test.YtkcaelfkcepdkaaGreatOfNote5
import Derived.Test.YtkcaelfkcepdkaaGreatOfNote12
import Derived.Test.YtkcaelfkcepdkaaGreatOfNote16
import Derived.Test.YtkcaelfkcepdkaaGreatOfNote15
import Derived.BigQuiet
import Derived.Deep.DeepCutAuto
import Derived.Deep.CutBlock
import Derived.Deep.QuietTactic
import Derived.Test.YtkcaelfkcepdkaaGreatOfNote8
namespace Go.Proofs.YtkcaelfkcepdkaaGreat
set_option maxRecDepth 100000
set_option maxHeartbeats 8000000
section
open Go.RowKit

def Ar (w:World) (lo hi e size:Nat) (v:Value) (k:Nat) (xs:List Value):Prop:=Ac w lo e size v k xs/\∀g,wrB v g->g<hi
theorem Ar.below {w w' :World} {lo hi e size k:Nat} {v:Value} {xs:List Value} (h:Ar w lo hi e size v k xs) (hb:Below w.heap.size w w'):Ar w' lo hi e size v k xs:=⟨h.1.below hb,h.2⟩
theorem Ar.chg {w w' :World} {P:Nat->Prop} {lo hi e size k:Nat} {v:Value} {xs:List Value} (h:Ar w lo hi e size v k xs) (hc:Chg P w w') (hP:∀g,lo<=g->g<hi->¬P g):Ar w' lo hi e size v k xs:=⟨h.1.chg hc (fun g hg=>hP g (h.1.lt g hg).1 (h.2 g hg)),h.2⟩
theorem Ar.but {w w' :World} {lo hi e size k R:Nat} {v:Value} {xs:List Value} (h:Ar w lo hi e size v k xs) (hc:Chg (fun g=>g=R) w w') (hR:R<lo):Ar w' lo hi e size v k xs:=h.chg hc (fun g h1 _ h3=>by omega)
theorem Ar.made {w:World} {lo e size k:Nat} {v:Value} {xs:List Value} (h:Ac w lo e size v k xs):Ar w lo w.heap.size e size v k xs:=⟨h,fun g hg=>(h.lt g hg).2⟩
theorem Ar.row {w:World} {lo hi e size k:Nat} {v:Value} {xs:List Value} (h:Ar w lo hi e size v k xs):Row w v k xs:=h.1.rowF.row
def Bt (n:Nat) (w:World) (lo hi:Nat) (m:Bv) (T:Tr) (l:DL):Prop:=AQ n w (fun g=>lo<=g/\g<hi) m T l
theorem Bt.below {n:Nat} {w w' :World} {lo hi:Nat} {m:Bv} {T:Tr} {l:DL} (h:Bt n w lo hi m T l) (hb:Below w.heap.size w w'):Bt n w' lo hi m T l:=AQ.below h hb
theorem Bt.chg {n:Nat} {w w' :World} {P:Nat->Prop} {lo hi:Nat} {m:Bv} {T:Tr} {l:DL} (h:Bt n w lo hi m T l) (hc:Chg P w w') (hP:∀g,lo<=g->g<hi->¬P g):Bt n w' lo hi m T l:=AQ.chg h hc (fun g hg=>hP g hg.1 hg.2)
theorem Bt.but {n:Nat} {w w' :World} {lo hi R:Nat} {m:Bv} {T:Tr} {l:DL} (h:Bt n w lo hi m T l) (hc:Chg (fun g=>g=R) w w') (hR:R<lo):Bt n w' lo hi m T l:=h.chg hc (fun g h1 _ h3=>by omega)
theorem Bt.made {n:Nat} {w:World} {lo:Nat} {m:Bv} {T:Tr} {l:DL} (h:AQ n w (fun g=>lo<=g) m T l):Bt n w lo w.heap.size m T l:=⟨h.1.lt,h.2.1,fun g hg=>⟨h.2.2 g hg,(h.2.1.lt g hg).2⟩⟩
theorem AQ.at {n:Nat} {w:World} {F:Nat->Prop} {m:Bv} {T:Tr} {l:DL} (h:AQ n w F m T l):DJ n w m T l:=⟨h.1.treeF.treeAt,h.2.1.rowF.row⟩
theorem Bt.src {n:Nat} {w:World} {lo hi:Nat} {m:Bv} {T:Tr} {l:DL} (h:Bt n w lo hi m T l):Src true n w (fun g=>lo<=g/\g<hi) m.x T:=⟨fun _=>h.1,h.1.treeF⟩
theorem AQ.sl {n:Nat} {w:World} {F:Nat->Prop} {m:Bv} {T:Tr} {l:DL} (h:AQ n w F m T l):∃(b:Bool) (x1 x2 x3 x4 x5:Option Addr × Nat × Nat),m=⟨⟨b, .slice x1.1 x1.2.1 x1.2.2, .slice x2.1 x2.2.1 x2.2.2, .slice x3.1 x3.2.1 x3.2.2, .slice x4.1 x4.2.1 x4.2.2⟩, .slice x5.1 x5.2.1 x5.2.2⟩:=by
 obtain⟨x,v⟩:=m
 obtain⟨b,x1,x2,x3,x4,e⟩:=h.1.sl
 obtain⟨x5,e5⟩:=h.2.1.sl
 simp only at e e5
 subst e e5;exact⟨b,x1,x2,x3,x4,x5,rfl⟩
def FZ (n:Nat) (w:World) (lo:Nat) (N:AL) (D:Nd):Prop:=
 ∃c1 c2 c3 c4 c5 c6:Nat,lo<=c1/\c1<=c2/\c2<=c3/\c3<=c4/\c4<=c5/\c5<=c6/\c6<=w.heap.size∧
  Ar w lo c1 119 6 N.lv D.l.length (Af D.l)/\Bt n w c1 c2 N.s D.T1 D.d1/\Ar w c2 c3 4 1 N.vv D.vs.length (AJ D.vs)/\Ar w c3 c4 3 1 N.nv D.nx.length (Am D.nx)/\Ar w c4 c5 3 1 N.mv D.mt.length (Am D.mt)/\Bt n w c5 c6 N.o D.T2 D.d2
theorem FZ.at {n:Nat} {w:World} {lo:Nat} {N:AL} {D:Nd} (h:FZ n w lo N D):Bq n w N D:=by
 obtain⟨c1,c2,c3,c4,c5,c6,h1,h2,h3,h4,h5,h6,h7,o1,o2,o3,o4,o5,o6⟩:=h
 exact⟨o1.row,AQ.at o2,o3.row,o4.row,o5.row,AQ.at o6⟩
end
section
open Go.RowKit

theorem Aw.off {b E s k:Nat} {v:Value} {ys:List Value} (h1:E≠157) (h2:E≠3) (h3:E≠115) (h4:E≠69):∀ {n:Nat} {w:World} {F:Nat->Prop} {x:TV} {T:Tr},Aw n w F x T->Ac w b E s v k ys->Aw n w (fun g=>F g/\¬wrB v g) x T
 |0,_,_,_,_,h,_=>h.elim
 |_+1,_,_,_,_,⟨a1,a2,a3,a4,a5,xs,K,a6,a7,a8,a9,a10⟩,o=>by
  refine⟨a1,a2,a3,a4,fun g hg=>⟨a5 g hg,fun hv=> ?_⟩,xs,fun i g=>K i g/\¬wrB v g,a6,a7,fun i hi=>(a8 i hi).off h1 h2 h3 h4 o,fun i g hi hg=>⟨⟨(a9 i g hi hg.1).1,hg.2⟩,(a9 i g hi hg.1).2⟩,fun i j g hij hj hg hg' =>a10 i j g hij hj hg.1 hg'.1⟩
  rcases hg with hg|hg|hg|hg
  ·exact Ac.apart o a2 h1 g hv hg
  ·exact Ac.apart o a3 h2 g hv hg
  ·exact Ac.apart o a4 h3 g hv hg
  ·exact Ac.apart o a7 h4 g hv hg

theorem Gb (n:Nat) (m:Bv) (T:Tr) (l:DL) (F:Nat->Prop) (k:Int) (w:World) (h:AQ n w F m T l) (hF:∀g,F g->g<w.heap.size) (hk0:0<=k) (hk1:k+(mkT n T:Nat)+4*l.length<=67108864) :
  Calls Tryz.prog 72 #[m.val, .int .i64 k] w fun e w' =>e= .returned (.int .i64 (k+(mkT n T:Nat)+4*l.length))/\AQ n w' F m (Ca n k T) (AG (k+(mkT n T:Nat)) l.length)/\Chg F w w' :=by
 obtain⟨⟨lf,p,c,k0,b⟩,v⟩:=m
 have T0:Hid (Aw n w (fun g=>F g/\¬wrB v g) ⟨lf,p,c,k0,b⟩ T):=h.1.off (by decide) (by decide) (by decide) (by decide) h.2.1
 have C1:Hid (∀u,Below w.heap.size w u->Calls Tryz.prog 104 #[.agg #[.bool lf,p,c,k0,b], .int .i64 k] u fun e w' =>e= .returned (.int .i64 (k+(mkT n T:Nat)))/\Aw n w' (fun g=>F g/\¬wrB v g) ⟨lf,p,c,k0,b⟩ (Ca n k T)/\Chg (fun g=>F g/\¬wrB v g) u w'):=fun u hu=>ME n ⟨lf,p,c,k0,b⟩ T (fun g=>F g/\¬wrB v g) k u (T0.out.below hu) (fun g hg=>Nat.lt_of_lt_of_le (hF g hg.1) hu.size) hk0 (by omega)
 have C2:Hid (∀u,Ac u 0 141 4 v l.length (Au l)->Calls Tryz.prog 43 #[v, .int .i64 (k+(mkT n T:Nat))] u fun e w' =>e= .returned (.int .i64 (k+(mkT n T:Nat)+4*l.length))/\Ac w' 0 141 4 v l.length (Au (AG (k+(mkT n T:Nat)) l.length))/\Chg (fun g=>wrB v g) u w'):=fun u hu=>Ek 0 v l _ u hu (by omega) (by omega) (by omega)
 have OF:Hid (∀g,wrB v g->F g):=h.2.2
 have FF:Hid (∀g,F g->g<w.heap.size):=hF
 have O1:Hid (∀u,Below w.heap.size w u->Ac u 0 141 4 v l.length (Au l)):=fun u hu=>h.2.1.below hu
 have ML:Hid ((AG (k+(mkT n T:Nat)) l.length).length=l.length):=A9 _ _
 have B1:Hid (Below w.heap.size w (w.alloc (.cells #[.bool lf,p,c,k0,b,v] 71))):=Ae _ _
 have N1:=Ag (Ai.start 71 w #[.bool lf,p,c,k0,b,v])
 have CH:Hid (Chg F w (w.alloc (.cells #[.bool lf,p,c,k0,b,v] 71))):=(Chg.refl _ _).alloc _
 have c1:=N1.out.cells
 clear h hF hk0 hk1 T0;generalize AG (k+(mkT n T:Nat)) l.length=l2 at *
 generalize k+((mkT n T:Nat):Int)=k1 at *
 generalize k1+4*((l.length:Nat):Int)=k2 at *
 generalize Ca n k T=T2 at *
 show Calls Tryz.prog 72 #[.agg #[.bool lf,p,c,k0,b,v], .int .i64 k] w _
 go_enter Tryz.func72,Tryz.ntmps72
 go_wp2_with fail;generalize w.alloc (.cells #[.bool lf,p,c,k0,b,v] 71)=W at *
 refine(C1.out _ B1.out).mono ?_
 rintro e w1 ⟨rfl,t1,g1⟩
 have O2:=Ag ((O1.out _ B1.out).chg g1 (fun g hg hf=>hf.2 hg))
 have T1:=Ag t1
 replace CH:=Ag (CH.out.trans g1 (fun g _ hg=>hg.1))
 replace N1:=Ag (Al N1.out g1 (fun hf=>absurd (FF.out _ hf.1) (Nat.lt_irrefl _)))
 clear t1 g1 c1;have c1:=fun j=>Aa (j:=j) N1.out
 go_wp2_with fail;refine(C2.out _ O2.out).mono ?_
 rintro e w2 ⟨rfl,o2,g2⟩
 have FIN:Hid (AQ n w2 F ⟨⟨lf,p,c,k0,b⟩,v⟩ T2 l2/\Chg F w w2):=⟨⟨(T1.out.chg g2 (fun g hg=>hg.2)).mono (fun g hg=>hg.1),by rw[ML.out];exact o2,OF.out⟩,CH.out.trans g2 (fun g _ hg=>OF.out g hg)⟩
 clear o2 g2 c1;go_wp2;go_ret;exact⟨rfl,FIN.out⟩
end
section
open Go.RowKit

def Mn (bt:Int) (l:EL) (k:Nat):Int:=if k=0 then bt else eT l (k-1)
def Tz (bt:Int) (l:EL) (k:Nat):Bool:=inB (eT l k) (Mn bt l k) 100000&&Sm (eC l k) (eS l k) (eO l k) (eK l k) (eV l k)
def SH (bt:Int) (l:EL):Bool:=(List.range l.length).all (Tz bt l)
def Sy (b bt:Int) (l:EL):Bool:=inB b 0 100000&&(inB bt 0 100000&&(decide (b+l.length<=100000)&&SH bt l))
end
section
open Go.RowKit

def Lj (b:Int) (l:EL):Int:=if l.length=0 then b else wrap64 (b+l.length)
abbrev UQ (b bt:Int) (l:EL):Value:= .tuple #[.int .i64 (Lj b l), .int .i64 (Mn bt l l.length)]
def Up (b bt:Int) (l:EL) (la lt:Int):Bool:=decide (lt>Mn bt l l.length∨(lt=Mn bt l l.length/\la>=Lj b l))
end
section
open Go.RowKit

def I64 (x:Int):Prop:= -9223372036854775808<=x/\x<=9223372036854775807
theorem Rp {b i:Int} (hb:I64 b) (hi:I64 i) (h:b<i):IntKind.u64.wrap (IntKind.u64.wrap (IntKind.u64.wrap i-IntKind.u64.wrap b)-1)=i-b-1:=by
 unfold I64 at hb hi;simp only[IntKind.wrap_u64]
 omega
def Cf (b:Int) (l:EL) (i:Int):Option Nat:=if b<i/\i-b-1<l.length then some (i-b-1).toNat else none
theorem Pz {b:Int} {l:EL} {i:Int} (h:i<=b):Cf b l i=none:=if_neg (by omega)
theorem Nr {b:Int} {l:EL} {i:Int} (h:¬i-b-1<l.length):Cf b l i=none:=if_neg (by omega)
theorem PH {b:Int} {l:EL} {n:Nat} (h:n<l.length) {i:Int} (hi:i=b+n+1):Cf b l i=some n:=by
 unfold Cf;rw[if_pos (by omega)];congr 1;omega
theorem K9 {b:Int} {l:EL} {i:Int} {n:Nat} (h:Cf b l i=some n):n<l.length/\i=b+n+1:=by
 unfold Cf at h;split at h
 ·simp at h;omega
 ·cases h
def US (b bt:Int) (l:EL) (i:Int):Int:=if i=b then bt else match Cf b l i with|some n=>eT l n|none=> -1

abbrev Og (o:Option Nat):Value:=match o with|some n=> .tuple #[.int .i64 (n:Int), .bool true]|none=> .tuple #[.int .i64 0, .bool false]

theorem Lf (b bt:Int) (v:Value) (l:EL) (i:Int) (w:World) (h:Row w v l.length (Af l)) (hb:I64 b) (hi:I64 i) :
  Calls Tryz.prog 128 #[lgV b bt v, .int .i64 i] w fun e w' =>e= .returned (Og (Cf b l i))/\Below w.heap.size w w' :=by
 obtain⟨a,bb,off,cap,rfl,hcap,hmax, -⟩:=h.ents
 unfold maxLen at hmax;have B1:Hid (Below w.heap.size w (w.alloc (.cells #[.int .i64 b, .int .i64 bt, .slice a l.length cap] 64))):=Ae _ _
 clear h;have HI:Hid (I64 b/\I64 i):=⟨hb,hi⟩
 clear hb hi;by_cases h1:i<=b
 ·have E:Hid (Cf b l i=none):=Pz h1
  go_enter Tryz.func128,Tryz.ntmps128
  go_wp2;refine bodyPost_ret (v:= .tuple #[.int .i64 0, .bool false]) (by simp[results,Tryz.results128,go_sem]) rfl ⟨?_,B1.out⟩
  rw[E.out]
 ·have hd:=Rp HI.out.1 HI.out.2 (show b<i by omega)
  by_cases h2:i-b-1<l.length
  ·obtain⟨n,hn⟩:∃n:Nat,i-b-1=n:=⟨(i-b-1).toNat,by omega⟩
   have E:Hid (Cf b l i=some n):=PH (by omega) (by omega)
   rw[hn] at hd h2
   have HN:Hid _:=hn
   have h3:n<l.length:=by omega
   have h4:¬((l.length:Nat):Int)<=(n:Int):=by omega
   clear h2 hn;go_enter Tryz.func128,Tryz.ntmps128
   go_wp2;refine bodyPost_ret (v:= .tuple #[.int .i64 (n:Int), .bool true]) (by simp[results,Tryz.results128,go_sem]) rfl ⟨?_,B1.out⟩
   rw[E.out]
  ·have E:Hid (Cf b l i=none):=Nr h2
   have h4:((l.length:Nat):Int)<=i-b-1:=by omega
   generalize i-b-1=d at *
   clear h2;go_enter Tryz.func128,Tryz.ntmps128
   go_wp2;refine bodyPost_ret (v:= .tuple #[.int .i64 0, .bool false]) (by simp[results,Tryz.results128,go_sem]) rfl ⟨?_,B1.out⟩
   rw[E.out]
end
section
open Go.RowKit

theorem NY {w:World} {base e size n:Nat} {v:Value} {xs:List Value} (h:Ac w base e size v n xs) {B:Nat} {c:Array Value} {t:Nat} (hB:w.heap[B]? =some (.cells c t (0,0))) (ht:t≠e) {g:Nat} (hg:wrB v g):¬g=B:=by
 rintro rfl
 obtain⟨kk,cc,hkk,hc0⟩:=hg
 rcases h with h|⟨h1,h2,g',h3⟩
 ·obtain⟨_,⟨e1,_⟩|⟨g2,cap2,cur,e1,_,e2,_⟩⟩:=h
  ·rw[hkk] at e1;simp at e1
  ·rw[hkk] at e1
   simp at e1
   obtain⟨rfl,rfl,rfl⟩:=e1
   rw[hB] at e2
   simp at e2
   exact ht e2.2
 ·rw[hkk] at h3;simp at h3;omega
theorem Js {n bytes:Nat} (h:n<=8388608) (hb:bytes<=256):0+n<=maxLen/\(0+n)*bytes<=140737488355328:=by
 constructor
 ·unfold maxLen;omega
 ·calc (0+n)*bytes<=8388608*256:=Nat.mul_le_mul (by omega) hb
   _<=140737488355328:=by decide

theorem MG (l:EL) (i j:Nat):Af ((l.take j).drop i)=((Af l).take (j*6)).drop (i*6):=by rw[Ny,NI]
theorem Row.part {w:World} {a:Option Addr} {cap:Nat} {l:EL} (h:Row w (.slice a l.length cap) l.length (Af l)) {i j m:Nat} (hij:i<=j) (hjl:j<=l.length) (hjm:j<=m) (hm:m<=cap) :
  Row w (.slice (if m=i then a else a.map (·.add (i*6))) (j-i) (m-i)) (j-i) (Af ((l.take j).drop i)):=by
 obtain⟨a',b,off,cap',hv,h2,h3,h4,h5,h6⟩:=h
 simp at hv
 obtain⟨rfl,rfl⟩:=hv
 refine⟨_,b,off+i*6,_,rfl,by omega,by omega,fun h0=> ?_,fun k u hk=> ?_,fun hn=> ?_⟩
 ·rw[if_neg (by omega),h4 (by omega)];simp[Addr.add]
 ·rw[MG,List.getElem?_drop,List.getElem?_take] at hk
  split at hk
  ·have:=h5 _ u hk
   rw[Nat.add_assoc]
   exact this
  ·cases hk
 ·by_cases hmi:m=i
  ·omega
  ·rw[if_neg hmi] at hn
   have:a=none:=by simpa using hn
   have:=h6 this
   omega

def Bj (b:Int) (l:EL) (i:Int):EL:=match Cf b l i with|some n=>l.drop n|none=>[]
theorem ID {b:Int} {l:EL} {i:Int} (h:Cf b l i=none):Bj b l i=[]:=by unfold Bj;rw[h]
theorem Iy {b:Int} {l:EL} {i:Int} {n:Nat} (h:Cf b l i=some n):Bj b l i=l.drop n:=by unfold Bj;rw[h]
theorem Jm (b:Int) (l:EL) (i:Int):(Bj b l i).length<=l.length:=by
 unfold Bj
 cases Cf b l i with
 |none=>exact Nat.zero_le _
 |some n=>rw[List.length_drop];omega
end
section
open Go.RowKit
end
section
open Go.RowKit

theorem OX (b t:Int) (v:Value) (l:EL) (lo:Nat) (k:Int) (w:World) (h:Ac w lo 119 6 v l.length (Af l)) (hn:l.length<=67108864) (hk0:0<=k) (hk1:k<=671088640) :
    Calls Tryz.prog 71 #[lgV b t v, .int .i64 k] w fun e w' =>e= .returned (.int .i64 (k+6*l.length))/\Ac w' lo 119 6 v l.length (Af (Bh k l.length))/\Chg (fun g=>wrB v g) w w' :=by
  have B1:Hid (Below w.heap.size w (w.alloc (.cells #[.int .i64 b, .int .i64 t,v] 64))):=Ae _ _
  have N1:=Ag (Ai.start 64 w #[.int .i64 b, .int .i64 t,v])
  have c1:=N1.out.cells
  have C1:=Ag (GR lo v l k (w.alloc (.cells #[.int .i64 b, .int .i64 t,v] 64)) (h.below B1.out) hn hk0 hk1)
  have CH:Hid (Chg (fun g=>wrB v g) w (w.alloc (.cells #[.int .i64 b, .int .i64 t,v] 64))):=(Chg.refl _ _).alloc _
  obtain⟨a,cap,hv⟩:=h.slice
  clear h hv;go_enter Tryz.func71,Tryz.ntmps71
  go_wp2_with fail;generalize w.alloc (.cells #[.int .i64 b, .int .i64 t,v] 64)=W at *
  refine C1.out.mono ?_
  rintro e w1 ⟨rfl,o1,g1⟩
  have FIN:Hid _:=And.intro o1 (CH.out.trans g1 (fun g _ hg=>hg))
  clear o1 g1 c1 C1 CH N1 B1;go_wp2;go_ret;exact⟨rfl,FIN.out⟩

def markD (n:Nat) (k:Int) (D:Nd):Nd:=
  ⟨Bh k D.l.length,Ca n (k+6*D.l.length) D.T1,AG (k+6*D.l.length+(mkT n D.T1:Nat)) D.d1.length,
   BI (k+6*D.l.length+(mkT n D.T1:Nat)+4*D.d1.length) D.vs.length,
   AS (k+6*D.l.length+(mkT n D.T1:Nat)+4*D.d1.length+D.vs.length) D.nx.length,
   AS (k+6*D.l.length+(mkT n D.T1:Nat)+4*D.d1.length+D.vs.length+D.nx.length) D.mt.length,
   Ca n (k+6*D.l.length+(mkT n D.T1:Nat)+4*D.d1.length+D.vs.length+D.nx.length+D.mt.length) D.T2,
   AG (k+6*D.l.length+(mkT n D.T1:Nat)+4*D.d1.length+D.vs.length+D.nx.length+D.mt.length+(mkT n D.T2:Nat)) D.d2.length⟩
def Ck (n:Nat) (w:World) (lo hi:Nat) (N:AL) (D:Nd):Prop:=
  ∃c1 c2 c3 c4 c5 c6:Nat,lo<=c1/\c1<=c2/\c2<=c3/\c3<=c4/\c4<=c5/\c5<=c6/\c6<=hi/\hi<=w.heap.size∧
    Ar w lo c1 119 6 N.lv D.l.length (Af D.l)/\Bt n w c1 c2 N.s D.T1 D.d1/\Ar w c2 c3 4 1 N.vv D.vs.length (AJ D.vs)/\Ar w c3 c4 3 1 N.nv D.nx.length (Am D.nx)/\Ar w c4 c5 3 1 N.mv D.mt.length (Am D.mt)/\Bt n w c5 c6 N.o D.T2 D.d2
theorem FZ.h {n:Nat} {w:World} {lo:Nat} {N:AL} {D:Nd} (h:FZ n w lo N D):Ck n w lo w.heap.size N D:=by
  obtain⟨c1,c2,c3,c4,c5,c6,h1,h2,h3,h4,h5,h6,h7,o⟩:=h
  exact⟨c1,c2,c3,c4,c5,c6,h1,h2,h3,h4,h5,h6,h7,Nat.le_refl _,o⟩
theorem Ck.d {n:Nat} {w:World} {lo hi:Nat} {N:AL} {D:Nd} (h:Ck n w lo hi N D):FZ n w lo N D:=by
  obtain⟨c1,c2,c3,c4,c5,c6,h1,h2,h3,h4,h5,h6,h7,h8,o⟩:=h
  exact⟨c1,c2,c3,c4,c5,c6,h1,h2,h3,h4,h5,h6,Nat.le_trans h7 h8,o⟩
theorem Ck.at {n:Nat} {w:World} {lo hi:Nat} {N:AL} {D:Nd} (h:Ck n w lo hi N D):Bq n w N D:=h.d.at
theorem Ck.chg {n:Nat} {w w' :World} {P:Nat->Prop} {lo hi:Nat} {N:AL} {D:Nd} (h:Ck n w lo hi N D) (hc:Chg P w w') (hP:∀g,lo<=g->g<hi->¬P g):Ck n w' lo hi N D:=by
  obtain⟨c1,c2,c3,c4,c5,c6,h1,h2,h3,h4,h5,h6,h7,h8,o1,o2,o3,o4,o5,o6⟩:=h
  exact⟨c1,c2,c3,c4,c5,c6,h1,h2,h3,h4,h5,h6,h7,Nat.le_trans h8 hc.size,o1.chg hc (fun g a b=>hP g (by omega) (by omega)),o2.chg hc (fun g a b=>hP g (by omega) (by omega)),o3.chg hc (fun g a b=>hP g (by omega) (by omega)),o4.chg hc (fun g a b=>hP g (by omega) (by omega)),o5.chg hc (fun g a b=>hP g (by omega) (by omega)),o6.chg hc (fun g a b=>hP g (by omega) (by omega))⟩
theorem Ck.below {n:Nat} {w w' :World} {lo hi:Nat} {N:AL} {D:Nd} (h:Ck n w lo hi N D) (hb:Below w.heap.size w w'):Ck n w' lo hi N D:=h.chg (Chg.of_below (F:=fun _=>False) hb) (fun _ _ _ e=>e)
def Jj (n:Nat) (k:Int) (D:Nd):Int:=k+6*D.l.length+(mkT n D.T1:Nat)+4*D.d1.length+D.vs.length+D.nx.length+D.mt.length+(mkT n D.T2:Nat)+4*D.d2.length

theorem N6 (n:Nat) (N:AL) (D:Nd) (lo hi:Nat) (k:Int) (w:World) (h:Ck n w lo hi N D) (hk0:0<=k) (hk1:Jj n k D<=67108864) :
    Calls Tryz.prog 21 #[N.val, .int .i64 k] w fun e w' =>e= .returned (.int .i64 (Jj n k D))/\Ck n w' lo hi N (markD n k D)/\Chg (fun g=>lo<=g/\g<hi) w w' :=by
  unfold Jj at *
  obtain⟨id,te,vo,lb,lt,lv,⟨⟨sl,sp,sc,sk,sb⟩,sv⟩,ro,vv,nv,mv,cm,⟨⟨ol,op,oc,ok,ob⟩,ov⟩⟩:=N
  obtain⟨l,T1,d1,vs,nx,mt,T2,d2⟩:=D
  obtain⟨e1,e2,e3,e4,e5,e6,h1,h2,h3,h4,h5,h6,h8,h9,o1,o2,o3,o4,o5,o6⟩:=h
  have h7:e6<=w.heap.size:=Nat.le_trans h8 h9
  simp only at hk1 o1 o2 o3 o4 o5 o6 ⊢
  have P1:Hid (∀u,Ar u lo e1 119 6 lv l.length (Af l)->Calls Tryz.prog 71 #[lgV lb lt lv, .int .i64 k] u fun e w' =>e= .returned (.int .i64 (k+6*l.length))/\Ar w' lo e1 119 6 lv l.length (Af (Bh k l.length))/\Chg (fun g=>lo<=g/\g<e1) u w'):=fun u hu=>(OX lb lt lv l lo k u hu.1 (by omega) hk0 (by omega)).mono (fun e w' ⟨a,b,c⟩=>⟨a,⟨b,hu.2⟩,c.mono (fun g _ hg=>⟨(hu.1.lt g hg).1,hu.2 g hg⟩)⟩)
  have P2:Hid (∀u,e2<=u.heap.size->Bt n u e1 e2 ⟨⟨sl,sp,sc,sk,sb⟩,sv⟩ T1 d1->Calls Tryz.prog 72 #[.agg #[.bool sl,sp,sc,sk,sb,sv], .int .i64 (k+6*l.length)] u fun e w' =>e= .returned (.int .i64 (k+6*l.length+(mkT n T1:Nat)+4*d1.length))/\Bt n w' e1 e2 ⟨⟨sl,sp,sc,sk,sb⟩,sv⟩ (Ca n (k+6*l.length) T1) (AG (k+6*l.length+(mkT n T1:Nat)) d1.length)/\Chg (fun g=>e1<=g/\g<e2) u w'):=fun u hs hu=>Gb n ⟨⟨sl,sp,sc,sk,sb⟩,sv⟩ T1 d1 _ (k+6*l.length) u hu (fun g hg=>by omega) (by omega) (by omega)
  have P3:Hid (∀u,Ar u e2 e3 4 1 vv vs.length (AJ vs)->Calls Tryz.prog 73 #[vv, .int .i64 (k+6*l.length+(mkT n T1:Nat)+4*d1.length)] u fun e w' =>e= .returned (.int .i64 (k+6*l.length+(mkT n T1:Nat)+4*d1.length+vs.length))/\Ar w' e2 e3 4 1 vv vs.length (AJ (BI (k+6*l.length+(mkT n T1:Nat)+4*d1.length) vs.length))/\Chg (fun g=>e2<=g/\g<e3) u w'):=fun u hu=>(H5 e2 vv vs _ u hu.1 (by omega) (by omega) (by omega)).mono (fun e w' ⟨a,b,c⟩=>⟨a,⟨b,hu.2⟩,c.mono (fun g _ hg=>⟨(hu.1.lt g hg).1,hu.2 g hg⟩)⟩)
  have P4:Hid (∀u,Ar u e3 e4 3 1 nv nx.length (Am nx)->Calls Tryz.prog 47 #[nv, .int .i64 (k+6*l.length+(mkT n T1:Nat)+4*d1.length+vs.length)] u fun e w' =>e= .returned (.int .i64 (k+6*l.length+(mkT n T1:Nat)+4*d1.length+vs.length+nx.length))/\Ar w' e3 e4 3 1 nv nx.length (Am (AS (k+6*l.length+(mkT n T1:Nat)+4*d1.length+vs.length) nx.length))/\Chg (fun g=>e3<=g/\g<e4) u w'):=fun u hu=>(Ea e3 nv nx _ u hu.1 (by omega) (by omega) (by omega)).mono (fun e w' ⟨a,b,c⟩=>⟨a,⟨b,hu.2⟩,c.mono (fun g _ hg=>⟨(hu.1.lt g hg).1,hu.2 g hg⟩)⟩)
  have P5:Hid (∀u,Ar u e4 e5 3 1 mv mt.length (Am mt)->Calls Tryz.prog 47 #[mv, .int .i64 (k+6*l.length+(mkT n T1:Nat)+4*d1.length+vs.length+nx.length)] u fun e w' =>e= .returned (.int .i64 (k+6*l.length+(mkT n T1:Nat)+4*d1.length+vs.length+nx.length+mt.length))/\Ar w' e4 e5 3 1 mv mt.length (Am (AS (k+6*l.length+(mkT n T1:Nat)+4*d1.length+vs.length+nx.length) mt.length))/\Chg (fun g=>e4<=g/\g<e5) u w'):=fun u hu=>(Ea e4 mv mt _ u hu.1 (by omega) (by omega) (by omega)).mono (fun e w' ⟨a,b,c⟩=>⟨a,⟨b,hu.2⟩,c.mono (fun g _ hg=>⟨(hu.1.lt g hg).1,hu.2 g hg⟩)⟩)
  have P6:Hid (∀u,e6<=u.heap.size->Bt n u e5 e6 ⟨⟨ol,op,oc,ok,ob⟩,ov⟩ T2 d2->Calls Tryz.prog 72 #[.agg #[.bool ol,op,oc,ok,ob,ov], .int .i64 (k+6*l.length+(mkT n T1:Nat)+4*d1.length+vs.length+nx.length+mt.length)] u fun e w' =>e= .returned (.int .i64 (k+6*l.length+(mkT n T1:Nat)+4*d1.length+vs.length+nx.length+mt.length+(mkT n T2:Nat)+4*d2.length))/\Bt n w' e5 e6 ⟨⟨ol,op,oc,ok,ob⟩,ov⟩ (Ca n (k+6*l.length+(mkT n T1:Nat)+4*d1.length+vs.length+nx.length+mt.length) T2) (AG (k+6*l.length+(mkT n T1:Nat)+4*d1.length+vs.length+nx.length+mt.length+(mkT n T2:Nat)) d2.length)/\Chg (fun g=>e5<=g/\g<e6) u w'):=fun u hs hu=>Gb n ⟨⟨ol,op,oc,ok,ob⟩,ov⟩ T2 d2 _ (k+6*l.length+(mkT n T1:Nat)+4*d1.length+vs.length+nx.length+mt.length) u hu (fun g hg=>by omega) (by omega) (by omega)
  obtain⟨av,qv,hvv, -⟩:=o3.row.len
  obtain⟨an,qn,hnv, -⟩:=o4.row.len
  obtain⟨am,qm,hmv, -⟩:=o5.row.len
  clear hvv hnv hmv;have E1:Hid (lo<=e1/\e1<=e2/\e2<=e3/\e3<=e4/\e4<=e5/\e5<=e6/\e6<=w.heap.size/\e6<=hi/\hi<=w.heap.size):=⟨h1,h2,h3,h4,h5,h6,h7,h8,h9⟩
  have B1:Below w.heap.size w (w.alloc (.cells #[.int .i64 id, .int .i64 te, .int .i64 vo, .int .i64 lb, .int .i64 lt,lv, .bool sl,sp,sc,sk,sb,sv, .int .i64 ro,vv,nv,mv, .int .i64 cm, .bool ol,op,oc,ok,ob,ov] 73)):=Ae _ _
  have O1:=Ag (o1.below B1)
  have O2:=Ag (o2.below B1)
  have O3:=Ag (o3.below B1)
  have O4:=Ag (o4.below B1)
  have O5:=Ag (o5.below B1)
  have O6:=Ag (o6.below B1)
  have SZ:Hid (e6<=(w.alloc (.cells #[.int .i64 id, .int .i64 te, .int .i64 vo, .int .i64 lb, .int .i64 lt,lv, .bool sl,sp,sc,sk,sb,sv, .int .i64 ro,vv,nv,mv, .int .i64 cm, .bool ol,op,oc,ok,ob,ov] 73)).heap.size):=Nat.le_trans h7 B1.size
  have N1:Hid ((w.alloc (.cells #[.int .i64 id, .int .i64 te, .int .i64 vo, .int .i64 lb, .int .i64 lt,lv, .bool sl,sp,sc,sk,sb,sv, .int .i64 ro,vv,nv,mv, .int .i64 cm, .bool ol,op,oc,ok,ob,ov] 73)).heap[w.heap.size]? =some (.cells #[.int .i64 id, .int .i64 te, .int .i64 vo, .int .i64 lb, .int .i64 lt,lv, .bool sl,sp,sc,sk,sb,sv, .int .i64 ro,vv,nv,mv, .int .i64 cm, .bool ol,op,oc,ok,ob,ov] 73 (0,0))):=Ai.start 73 w #[.int .i64 id, .int .i64 te, .int .i64 vo, .int .i64 lb, .int .i64 lt,lv, .bool sl,sp,sc,sk,sb,sv, .int .i64 ro,vv,nv,mv, .int .i64 cm, .bool ol,op,oc,ok,ob,ov]
  have CH:Hid (Chg (fun g=>lo<=g/\g<hi) w (w.alloc (.cells #[.int .i64 id, .int .i64 te, .int .i64 vo, .int .i64 lb, .int .i64 lt,lv, .bool sl,sp,sc,sk,sb,sv, .int .i64 ro,vv,nv,mv, .int .i64 cm, .bool ol,op,oc,ok,ob,ov] 73))):=(Chg.refl _ _).alloc _
  clear h1 h2 h3 h4 h5 h6 h7 h8 h9 o1 o2 o3 o4 o5 o6 B1 hk0 hk1;have c1:=fun j=>Aa (j:=j) N1.out
  generalize hq6:k+6*l.length+(mkT n T1:Nat)+4*d1.length+vs.length+nx.length+mt.length+(mkT n T2:Nat)+4*d2.length=r6 at *
  generalize hq5:k+6*l.length+(mkT n T1:Nat)+4*d1.length+vs.length+nx.length+mt.length=r5 at *
  generalize hq4:k+6*l.length+(mkT n T1:Nat)+4*d1.length+vs.length+nx.length=r4 at *
  generalize hq3:k+6*l.length+(mkT n T1:Nat)+4*d1.length+vs.length=r3 at *
  generalize hq2:k+6*l.length+(mkT n T1:Nat)+4*d1.length=r2 at *
  generalize hq1:k+6*l.length=r1 at *
  have HQ1:=Ag hq1
  have HQ2:=Ag hq2
  have HQ3:=Ag hq3
  have HQ4:=Ag hq4
  have HQ5:=Ag hq5
  have HQ6:=Ag hq6
  clear hq1 hq2 hq3 hq4 hq5 hq6;show Calls Tryz.prog 21 #[.agg #[.int .i64 id, .int .i64 te, .int .i64 vo, .int .i64 lb, .int .i64 lt,lv, .bool sl,sp,sc,sk,sb,sv, .int .i64 ro,vv,nv,mv, .int .i64 cm, .bool ol,op,oc,ok,ob,ov], .int .i64 k] w _
  go_enter Tryz.func21,Tryz.ntmps21
  go_wp2_with fail;generalize w.alloc (.cells #[.int .i64 id, .int .i64 te, .int .i64 vo, .int .i64 lb, .int .i64 lt,lv, .bool sl,sp,sc,sk,sb,sv, .int .i64 ro,vv,nv,mv, .int .i64 cm, .bool ol,op,oc,ok,ob,ov] 73)=W at *
  refine(P1.out _ O1.out).mono ?_
  rintro e w1 ⟨rfl,o,g⟩
  have q:=E1.out
  replace SZ:=Ag (Nat.le_trans SZ.out g.size)
  replace O1:=Ag o
  replace O2:=Ag (O2.out.chg g (fun x a b c=>by omega))
  replace O3:=Ag (O3.out.chg g (fun x a b c=>by omega))
  replace O4:=Ag (O4.out.chg g (fun x a b c=>by omega))
  replace O5:=Ag (O5.out.chg g (fun x a b c=>by omega))
  replace O6:=Ag (O6.out.chg g (fun x a b c=>by omega))
  replace N1:=Ag (Al N1.out g (fun c=>by omega))
  replace CH:=Ag (CH.out.trans g (fun x _ c=>by omega))
  clear o g q c1;have c1:=fun j=>Aa (j:=j) N1.out
  go_wp2_with fail;refine(P2.out _ (by have q:=E1.out;have s:=SZ.out;omega) O2.out).mono ?_
  rintro e w2 ⟨rfl,o,g⟩
  have q:=E1.out
  replace SZ:=Ag (Nat.le_trans SZ.out g.size)
  replace O1:=Ag (O1.out.chg g (fun x a b c=>by omega))
  replace O2:=Ag o
  replace O3:=Ag (O3.out.chg g (fun x a b c=>by omega))
  replace O4:=Ag (O4.out.chg g (fun x a b c=>by omega))
  replace O5:=Ag (O5.out.chg g (fun x a b c=>by omega))
  replace O6:=Ag (O6.out.chg g (fun x a b c=>by omega))
  replace N1:=Ag (Al N1.out g (fun c=>by omega))
  replace CH:=Ag (CH.out.trans g (fun x _ c=>by omega))
  clear o g q c1;have c1:=fun j=>Aa (j:=j) N1.out
  go_wp2_with fail;refine(P3.out _ O3.out).mono ?_
  rintro e w3 ⟨rfl,o,g⟩
  have q:=E1.out
  replace SZ:=Ag (Nat.le_trans SZ.out g.size)
  replace O1:=Ag (O1.out.chg g (fun x a b c=>by omega))
  replace O2:=Ag (O2.out.chg g (fun x a b c=>by omega))
  replace O3:=Ag o
  replace O4:=Ag (O4.out.chg g (fun x a b c=>by omega))
  replace O5:=Ag (O5.out.chg g (fun x a b c=>by omega))
  replace O6:=Ag (O6.out.chg g (fun x a b c=>by omega))
  replace N1:=Ag (Al N1.out g (fun c=>by omega))
  replace CH:=Ag (CH.out.trans g (fun x _ c=>by omega))
  clear o g q c1;have c1:=fun j=>Aa (j:=j) N1.out
  go_wp2_with fail;refine(P4.out _ O4.out).mono ?_
  rintro e w4 ⟨rfl,o,g⟩
  have q:=E1.out
  replace SZ:=Ag (Nat.le_trans SZ.out g.size)
  replace O1:=Ag (O1.out.chg g (fun x a b c=>by omega))
  replace O2:=Ag (O2.out.chg g (fun x a b c=>by omega))
  replace O3:=Ag (O3.out.chg g (fun x a b c=>by omega))
  replace O4:=Ag o
  replace O5:=Ag (O5.out.chg g (fun x a b c=>by omega))
  replace O6:=Ag (O6.out.chg g (fun x a b c=>by omega))
  replace N1:=Ag (Al N1.out g (fun c=>by omega))
  replace CH:=Ag (CH.out.trans g (fun x _ c=>by omega))
  clear o g q c1;have c1:=fun j=>Aa (j:=j) N1.out
  go_wp2_with fail;refine(P5.out _ O5.out).mono ?_
  rintro e w5 ⟨rfl,o,g⟩
  have q:=E1.out
  replace SZ:=Ag (Nat.le_trans SZ.out g.size)
  replace O1:=Ag (O1.out.chg g (fun x a b c=>by omega))
  replace O2:=Ag (O2.out.chg g (fun x a b c=>by omega))
  replace O3:=Ag (O3.out.chg g (fun x a b c=>by omega))
  replace O4:=Ag (O4.out.chg g (fun x a b c=>by omega))
  replace O5:=Ag o
  replace O6:=Ag (O6.out.chg g (fun x a b c=>by omega))
  replace N1:=Ag (Al N1.out g (fun c=>by omega))
  replace CH:=Ag (CH.out.trans g (fun x _ c=>by omega))
  clear o g q c1;have c1:=fun j=>Aa (j:=j) N1.out
  go_wp2_with fail;refine(P6.out _ (by have q:=E1.out;have s:=SZ.out;omega) O6.out).mono ?_
  rintro e w6 ⟨rfl,o,g⟩
  have q:=E1.out
  replace SZ:=Ag (Nat.le_trans SZ.out g.size)
  replace O1:=Ag (O1.out.chg g (fun x a b c=>by omega))
  replace O2:=Ag (O2.out.chg g (fun x a b c=>by omega))
  replace O3:=Ag (O3.out.chg g (fun x a b c=>by omega))
  replace O4:=Ag (O4.out.chg g (fun x a b c=>by omega))
  replace O5:=Ag (O5.out.chg g (fun x a b c=>by omega))
  replace O6:=Ag o
  replace N1:=Ag (Al N1.out g (fun c=>by omega))
  replace CH:=Ag (CH.out.trans g (fun x _ c=>by omega))
  clear o g q c1;have c1:=fun j=>Aa (j:=j) N1.out
  go_wp2;go_ret;refine⟨rfl, ?_,CH.out⟩
  obtain⟨h1,h2,h3,h4,h5,h6,h7,h8,h9⟩:=E1.out
  refine⟨e1,e2,e3,e4,e5,e6,h1,h2,h3,h4,h5,h6,h8,Nat.le_trans h9 CH.out.size, ?_, ?_, ?_, ?_, ?_, ?_⟩
  · show Ar _ _ _ _ _ _ (Bh k l.length).length (Af (Bh k l.length))
    rw[Br]
    exact O1.out
  · show Bt _ _ _ _ _ (Ca n (k + 6 * l.length) T1) (AG (k + 6 * l.length + (mkT n T1 : Nat)) d1.length)
    rw[HQ1.out]
    exact O2.out
  · show Ar _ _ _ _ _ _ (BI (k + 6 * l.length + (mkT n T1 : Nat) + 4 * d1.length) vs.length).length (AJ (BI (k + 6 * l.length + (mkT n T1 : Nat) + 4 * d1.length) vs.length))
    rw[BM,HQ1.out,HQ2.out]
    exact O3.out
  · show Ar _ _ _ _ _ _ (AS (k + 6 * l.length + (mkT n T1 : Nat) + 4 * d1.length + vs.length) nx.length).length (Am (AS (k + 6 * l.length + (mkT n T1 : Nat) + 4 * d1.length + vs.length) nx.length))
    rw[AO,HQ1.out,HQ2.out,HQ3.out]
    exact O4.out
  · show Ar _ _ _ _ _ _ (AS (k + 6 * l.length + (mkT n T1 : Nat) + 4 * d1.length + vs.length + nx.length) mt.length).length (Am (AS (k + 6 * l.length + (mkT n T1 : Nat) + 4 * d1.length + vs.length + nx.length) mt.length))
    rw[AO,HQ1.out,HQ2.out,HQ3.out,HQ4.out]
    exact O5.out
  · show Bt _ _ _ _ _ (Ca n (k + 6 * l.length + (mkT n T1 : Nat) + 4 * d1.length + vs.length + nx.length + mt.length) T2) (AG (k + 6 * l.length + (mkT n T1 : Nat) + 4 * d1.length + vs.length + nx.length + mt.length + (mkT n T2 : Nat)) d2.length)
    rw[HQ1.out,HQ2.out,HQ3.out,HQ4.out,HQ5.out]
    exact O6.out
end
end Go.Proofs.YtkcaelfkcepdkaaGreat
