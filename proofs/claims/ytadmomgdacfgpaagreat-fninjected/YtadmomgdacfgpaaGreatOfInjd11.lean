/-
  The contract of the program's wayDown.
  The sorted map's drop, by a contract.
  Contracts of MapGet, the model's and the program's.
  Contracts of the model's MapDo and MapAll.
  Contracts of the program's sorted map as a map of pairs: put, drop, get, turned by a message, made of a list.
  The program's sorted map made of a list of pairs, and told as one.
-/
import Derived.Test.YtadmomgdacfgpaaGreatOfInjd10
import Derived.Deep.DeepCutAuto
import Derived.Test.YtadmomgdacfgpaaGreatOfInjd3
import Derived.Test.YtadmomgdacfgpaaGreatOfInjd2
import Derived.Test.YtadmomgdacfgpaaGreatOfInjd4
import Derived.Test.YtadmomgdacfgpaaGreatOfInjd8
namespace Go.Proofs.YtadmomgdacfgpaaGreat
set_option maxRecDepth 100000
set_option maxHeartbeats 8000000
section
open Go.RowKit

def W5 (m:Nat):Prop:=∀(n:Nat) (x:TV) (T:Tr) (lo hi k:Int) (w0 w:World),AO n w0 x T->Below w0.heap.size w0 w->AE m T lo hi≠0→
 Calls Tryz.prog 48 #[x.val, .int .i64 k] w fun e w' =>∃(y:TV) (v' :Value),e= .returned (.tuple #[y.val,v'])/\AO n w0 y (Mv m T k)/\w'.ownsRow w.heap.size 35 3 v' (J3 m T k).length (Af (J3 m T k))/\Below w.heap.size w w'

theorem Ar.chg {w w' :World} {L:Nat} {A:Array Value} {p:Nat->Prop} (h:Ar w L A) (hc:Chg p w w') (hp:¬p L):Ar w' L A:=
 (hc.block L (Array.getElem?_eq_some_iff.1 h).1 hp).trans h

theorem Bu {u:World} {B:Nat} {x0 x1 x2 x3 x4:Value} (h:Ar u B #[x0,x1,x2,x3,x4]) :
  (u.cell? ⟨B,0,none⟩=some x0/\u.cell? ⟨B,1,none⟩=some x1/\u.cell? ⟨B,2,none⟩=some x2/\u.cell? ⟨B,3,none⟩=some x3/\u.cell? ⟨B,4,none⟩=some x4)∧
  (u.frozen? ⟨B,0,none⟩=false/\u.frozen? ⟨B,1,none⟩=false/\u.frozen? ⟨B,2,none⟩=false/\u.frozen? ⟨B,3,none⟩=false/\u.frozen? ⟨B,4,none⟩=false):=
 ⟨Av h,frozen_of_row u B 0 _ 30 h,frozen_of_row u B 1 _ 30 h,frozen_of_row u B 2 _ 30 h,frozen_of_row u B 3 _ 30 h,frozen_of_row u B 4 _ 30 h⟩

abbrev set5 (u:World) (L:Nat) (t0 t1 t2 t3 t4:Value):World:=((((u.setCell ⟨L,0,none⟩ t0).setCell ⟨L,1,none⟩ t1).setCell ⟨L,2,none⟩ t2).setCell ⟨L,3,none⟩ t3).setCell ⟨L,4,none⟩ t4
theorem Ar.set5 {u:World} {L:Nat} {x0 x1 x2 x3 x4:Value} (h:Ar u L #[x0,x1,x2,x3,x4]) (t0 t1 t2 t3 t4:Value):Ar (set5 u L t0 t1 t2 t3 t4) L #[t0,t1,t2,t3,t4]:=
 heap_setCell_same _ L 4 _ 30 t4 (heap_setCell_same _ L 3 _ 30 t3 (heap_setCell_same _ L 2 _ 30 t2 (heap_setCell_same _ L 1 _ 30 t1 (heap_setCell_same u L 0 _ 30 t0 h))))
theorem Bs (u:World) (L:Nat) (t0 t1 t2 t3 t4:Value):Chg (fun g=>g=L) u (set5 u L t0 t1 t2 t3 t4):=
 (((((Chg.refl (fun g=>g=L) u).setAt L 0 rfl t0).setAt L 1 rfl t1).setAt L 2 rfl t2).setAt L 3 rfl t3).setAt L 4 rfl t4
end
section
open Go.RowKit

theorem Tz (B:Nat) (F:Nat->Prop) (ks vs:List Int) (k:Int) (w:World) (h:Srt w B F ks vs) (hs:ks.Pairwise (· <= ·)) (hbig:ks.length<=1048576) (hf:ks.contains k=false) :
  Calls Tryz.prog 104 #[.pointer (some ⟨B,0,none⟩), .int .i64 k] w fun e w'=>
   e= .returned (.tuple #[])/\∃q,w' =w.drewN q:=by
 obtain⟨kv,vv,h1,h2,h3,h4,h5,h6,h7⟩:=h
 obtain⟨ka,kc,hkv⟩:=Bk h2
 have c0:w.cell? ⟨B,0,none⟩=some (.slice ka ks.length kc):=by rw[Ae h1, ← hkv];rfl
 have SO:=Fw kv ks k w h2 hs (by omega)
 rw[hf,hkv] at SO
 have S2:Hid _:=(fun (_:Nat)=>SO)
 clear SO h1 h2 h3 h4 h5 h6 h7 hkv hs hf;generalize ks.countP (fun x=>decide (x<k))=p at *
 go_enter Tryz.func104,Tryz.ntmps104
 go_wp2_with fail;refine(S2.out 0).mono ?_
 rintro e w1 ⟨rfl,q,rfl⟩
 go_wp2;exact bodyPost_ret (v:= .tuple #[]) (by simp[results,Tryz.results104,go_sem]) rfl ⟨rfl,q,rfl⟩

theorem QR (B:Nat) (F:Nat->Prop) (ks vs:List Int) (k:Int) (w:World) (h:Srt w B F ks vs) (hs:ks.Pairwise (· <= ·)) (hl:vs.length=ks.length) (hbig:ks.length<=1048576) (hf:ks.contains k=true) :
  Calls Tryz.prog 104 #[.pointer (some ⟨B,0,none⟩), .int .i64 k] w fun e w'=>
   e= .returned (.tuple #[])/\∃F',Srt w' B F' (ks.take (ks.countP (· < k))++ks.drop (ks.countP (· < k)+1)) (vs.take (ks.countP (· < k))++vs.drop (ks.countP (· < k)+1))/\Chg F w w' ∧(∀g,F' g->F g∨w.heap.size<=g):=by
 obtain⟨kv,vv,h1,h2,h3,h4,h5,h6,h7⟩:=h
 have HL:Hid (vs.length=ks.length):=hl
 clear hl;have hp:ks.countP (fun x=>decide (x<k))<ks.length:=KX hf
 obtain⟨ka,kc,hkv⟩:=Bk h2
 obtain⟨va,vc,hvv⟩:=Bk h3
 have SO:=Fw kv ks k w h2 hs (by omega)
 rw[hf] at SO
 generalize ks.countP (fun x=>decide (x<k))=p at *
 have c0:w.cell? ⟨B,0,none⟩=some (.slice ka ks.length kc):=by rw[Ae h1, ← hkv];rfl
 have S2:Hid _:=(fun (_:Nat)=>SO)
 clear SO;have INFO:Hid _:=And.intro h1 (And.intro h2 (And.intro h3 (And.intro h4 (And.intro h6 (And.intro h7 (And.intro hkv hvv))))))
 rw[hkv] at S2
 clear h1 h2 h3 h4 h6 h7 hkv hvv hs hf;go_enter Tryz.func104,Tryz.ntmps104
 go_wp2_with fail;refine(S2.out 0).mono ?_
 rintro e w1 ⟨rfl,q,rfl⟩
 go_wp2_with fail;obtain⟨h1,h2,h3,h4,h6,h7,hkv,hvv⟩:=INFO.out
 have b1:Below w.heap.size w (w.drewN q):=below_drewN (Below.refl _ _) q
 have INS:=Ma kv ks p (w.drewN q) (AF h2 b1) hp
 rw[hkv,show((p+1:Nat):Int)=(p:Int)+1 from by omega] at INS
 refine INS.mono ?_
 rintro e w2 ⟨kv',rfl,o2,c2,b2⟩
 rw[←hkv] at c2 b2
 have C2:Chg (fun g=>kv.ownBlock=some g) w w2:=(Chg.of_below b1).trans c2 (fun _ _ e=>e)
 have hkB:¬kv.ownBlock=some B:=fun e=>by
  obtain⟨_,cur,hc⟩:=DQ h2 e
  rw[h1] at hc;simp at hc
 have hB2:=C9 h1 C2 hkB
 obtain⟨a2,q2,hv2⟩:=Bk o2
 have d0:w2.cell? ⟨B,0,none⟩=some (.slice ka ks.length kc):=by rw[Ae hB2, ← hkv];rfl
 have d1:w2.cell? ⟨B,1,none⟩=some (.slice va vs.length vc):=by rw[Ae hB2, ← hvv];rfl
 have f0:w2.frozen? ⟨B,0,none⟩=false:=AC hB2
 have f1:w2.frozen? ⟨B,1,none⟩=false:=AC hB2
 have hvk:∀g,vv.ownBlock=some g->¬kv.ownBlock=some g:=fun g hg hk=>h4 g hk hg
 have O3:w2.ownsRow 0 3 1 vv vs.length (vs.map (Value.int .i64)):=Az h3 C2 hvk
 have hvB:vv.ownBlock≠some B:=fun e=>by
  obtain⟨_,cur,hc⟩:=DQ h3 e
  rw[h1] at hc;simp at hc
 have I2:Hid _:=And.intro hv2 (And.intro o2 (And.intro C2 (And.intro b2 (And.intro hB2 (And.intro O3 hvB)))))
 rw[hv2]
 clear hv2 o2 C2 b2 hB2 O3 hvB c2 INS b1 hkB hvk c0 h1 h2 h3 h4 h6 h7 hkv hvv;generalize ks.length-1=m at *
 go_wp2_with fail;obtain⟨hv2,o2,C2,b2,hB2,O3,hvB⟩:=I2.out
 obtain⟨h1,h2,h3,h4,h6,h7,hkv,hvv⟩:=INFO.out
 have cB:Chg (fun g=>g=B) w2 (w2.setCell ⟨B,0,none⟩ (.slice a2 m q2)):=Chg.setCell (F:=fun g=>g=B) (Chg.refl _ _) (fun _=>rfl) _
 have O4:(w2.setCell ⟨B,0,none⟩ (.slice a2 m q2)).ownsRow 0 3 1 vv vs.length (vs.map (Value.int .i64)):=Az O3 cB (fun g hg e=>hvB (e ▸ hg))
 have INS:=Ma vv vs p _ O4 (by rw[HL.out];exact hp)
 rw[hvv,show((p+1:Nat):Int)=(p:Int)+1 from by omega] at INS
 refine INS.mono ?_
 rintro e w4 ⟨vv',rfl,o4,c4,b4⟩
 rw[←hvv] at c4 b4
 have C4:Chg (fun g=>vv.ownBlock=some g) (w2.setCell ⟨B,0,none⟩ kv') w4:=by rw[hv2];exact c4
 have hB3:(w2.setCell ⟨B,0,none⟩ kv').heap[B]? =some (.cells #[kv',vv] 102 (0,0)):=by
  rw[heap_setCell_same w2 B 0 _ 102 kv' hB2];rfl
 have hB4:=C9 hB3 C4 hvB
 obtain⟨a4,q4,hv4⟩:=Bk o4
 have e1:w4.cell? ⟨B,1,none⟩=some (.slice va vs.length vc):=by rw[Ae hB4, ← hvv];rfl
 have g1:w4.frozen? ⟨B,1,none⟩=false:=AC hB4
 have hlenk:(ks.take p++ks.drop (p+1)).length=m:=by have:=o2.1;simp at this ⊢;omega
 have hlenv:(vs.take p++vs.drop (p+1)).length=vs.length-1:=by have:=HL.out;simp;omega
 rw[←hlenk] at o2
 rw[←hlenv] at o4
 have FIN:Hid _:=And.intro hv4 (Srt.ins (F:=F) h1 h3 h4 h5 h6 h7 o2 C2 (Or.inl b2) (Nat.le_refl _) hB2 o4 C4 (Or.inl b4) (Nat.le_refl _))
 rw[hv4]
 clear hv4 o4 C4 b4 hB4 hB3 c4 INS O4 cB h1 h2 h3 h4 h6 h7 hkv hvv hv2 o2 C2 b2 hB2 O3 hvB hlenk hlenv;generalize vs.length-1=m' at *
 go_wp2;obtain⟨hv4,F',r1,r2,r3⟩:=FIN.out
 rw[hv4] at r1 r2
 go_end0
 exact⟨rfl,F',r1,r2,r3⟩
end
section
open Go.RowKit

theorem Rx {a b:Int} {c d:Bool} {q:Int × Bool} (h:q=(a,c)) (h2:b=a) (h3:d=c):Ending.returned (.tuple #[.int .i64 b, .bool d])= .returned (.tuple #[.int .i64 q.1, .bool q.2]):=by rw[h,h2,h3]

theorem Kk (v:Value) (l:List (Int × Int)) (x:Int) (w:World) (h:Row w v l.length (Aq l)) :
  Calls Tryz.prog 126 #[v, .int .i64 x] w fun e w' =>e= .returned (.tuple #[.int .i64 (Aw l x).1, .bool (Aw l x).2])/\w' =w:=by
 obtain⟨a,b,off,cap,rfl,hcap,hmax,ha,hk,hv⟩:=h.pairs
 unfold maxLen at hmax;go_enter Tryz.func126,Tryz.ntmps126
 go_wp2;go_loop [6] (fun i=>∃k:Nat,k<=l.length/\i= .int .i64 k/\(∀j,j<k->kOf l j≠x))
  (fun i=>l.length-(intOf i).toNat)
 case atStart=>exact⟨0,Nat.zero_le _,rfl,fun i hi=>absurd hi (Nat.not_lt_zero _)⟩
 case round=>
  obtain⟨k,hkl,rfl,hall⟩:=hrel
  have ALL:Hid (∀j,j<k->kOf l j≠x):=hall
  clear hall;by_cases hlt:k<l.length
  ·have hal:=ha (by omega)
   subst hal;have d0:=hk k hlt
   have d1:=hv k hlt
   by_cases hx:kOf l k=x
   ·have G:Hid (Aw l x=(vOf l k,true)):=UE hlt ALL.out hx
    have hq:(kOf l k==x)=true:=by simpa using hx
    clear hk hv hx;go_wp2;go_ret2
    exact⟨Rx G.out rfl rfl,rfl⟩
   ·have hq:(kOf l k==x)=false:=by simpa using hx
    have HX:Hid (kOf l k≠x):=hx
    clear hk hv hx;go_wp2;go_round
    case rel=>exact⟨k+1,by omega,by go_num,fun i hi=>if h:i<k then ALL.out i h else by rw[show i=k by omega];exact HX.out⟩
    case measure=>simp[intOf];omega
  ·have G:Hid (Aw l x=(0,false)):=Sr (fun j hj=>ALL.out j (by omega))
   go_wp2;go_ret2
   exact⟨Rx G.out rfl rfl,rfl⟩
end
section
open Go.RowKit

theorem RV {l:PL} (h:Cy l) (k:Int): -1000000000<=(Aw l k).1/\(Aw l k).1<=1000000000:=by
 have hh:∀l:PL,(∀p∈l,Od p)-> -1000000000<=(Aw l k).1/\(Aw l k).1<=1000000000:=by
  intro l;induction l with
  |nil=>intro _;simp[Aw]
  |cons p l ih=>
   intro h;rw[Aw]
   split
   ·exact(h p (by simp)).2
   ·exact ih (fun q hq=>h q (by simp[hq]))
 exact hh l h.2

theorem KU (x:Int) (h1: -4000000000<=x) (h2:x<=4000000000):IntKind.i64.wrap x=x:=by rw[IntKind.wrap_i64];omega
theorem Fu {n bytes:Nat} (h:n<=8388608) (hb:bytes<=256):0+n<=maxLen/\(0+n)*bytes<=140737488355328:=by
 refine⟨by unfold maxLen;omega, ?_⟩
 have:(0+n)*bytes<=(0+n)*256:=Nat.mul_le_mul_left _ hb
 omega

theorem NR {l:PL} {o k v:Int} (h:Bd l=false∨AJ o k v=false):doL l (o,k,v)=l:=by
 unfold doL;rw[if_neg]
 rintro⟨h1,h2⟩
 rcases h with h|h
 ·rw[h] at h1;cases h1
 ·simp only at h2;rw[h] at h2;cases h2
theorem Uw {l:PL} {o k v:Int} (h1:Bd l=true) (h2:AJ o k v=true):doL l (o,k,v)=doP l (o,k,v):=by
 unfold doL;rw[if_pos ⟨h1,h2⟩]

theorem Mg (va:Value) (l:PL) (o k v:Int) (w:World) (h:Row w va l.length (Aq l)) (hn:l.length<=2097152) :
  Calls Tryz.prog 110 #[va, .agg #[.int .i64 o, .int .i64 k, .int .i64 v]] w fun e w' =>∃v',e= .returned v' ∧w'.ownsRow w.heap.size 41 2 v' (doL l (o,k,v)).length (Aq (doL l (o,k,v)))/\Below w.heap.size w w' :=by
 obtain⟨i0,hi,hz0,hz1,hz2⟩:=info_parts Tryz.info41
 have b0:Below w.heap.size w (w.alloc (.cells #[.int .i64 o, .int .i64 k, .int .i64 v] 35)):=(Below.refl _ _).alloc (Nat.le_refl _) _
 have RW:Hid (Row w va l.length (Aq l)):=h
 have HR:Hid _:=Fu (n:=l.length) (bytes:=16) (by omega) (by decide)
 obtain⟨a,b,off,cap,hva,_⟩:=h.pairs
 cases hM:Bd l
 ·have E:Hid (doL l (o,k,v)=l):=NR (Or.inl hM)
  clear h hva;go_enter Tryz.func110,Tryz.ntmps110
  go_wp2_with fail;refine(CY va l _ (RW.out.below b0)).mono ?_
  rw[hM]
  rintro e w1 ⟨rfl,b1⟩
  have B1:Below w.heap.size w w1:=Below.and b0 b1
  have B1s:=B1.size
  have R1:Row w1 va l.length (Aq l):=(RW.out.below b0).below b1
  have RR:Hid (Row w1 va l.length (Aq l)):=R1
  clear b0 b1 R1 hM;have Hb:Hid (w.heap.size<=(w1.alloc (.cells #[] 41)).heap.size):=by show _<=_;simp;omega
  go_wp2_with (at_builtin;refine Fj (w1.alloc (.cells #[] 41)) rfl _ _ 26 rfl w.heap.size 41 i0 _ 2 16 Tryz.underlying26 hi hz0 hz1 hz2 rfl (by decide) (.slice (some ⟨w1.heap.size,0,none⟩) 0 0) 0 [] rfl (De w1 w.heap.size 41 2 B1s) va l.length (Aq l) rfl (RR.out.below ((Below.refl _ _).alloc (Nat.le_refl _) _)) (Cr _) (El _) HR.out.1 HR.out.2 Hb.out ?_)
  intro v' w2 ho2 _ hb2;have B2:Below w.heap.size w w2:=(B1.alloc B1s _).trans hb2
  clear hb2 B1;go_wp2;go_ret;rw[E.out]
  exact⟨_,rfl,by simpa using ho2,B2⟩
 ·have hmp:Cy l:=(Ef l).1 hM
  cases hG:AJ o k v
  ·have E:Hid (doL l (o,k,v)=l):=NR (Or.inr hG)
   clear h hva;go_enter Tryz.func110,Tryz.ntmps110
   go_wp2_with fail;refine(CY va l _ (RW.out.below b0)).mono ?_
   rw[hM]
   rintro e w1 ⟨rfl,b1⟩
   have B1:Below w.heap.size w w1:=Below.and b0 b1
   obtain⟨hc,_⟩:=Pq b1
   have R1:Row w1 va l.length (Aq l):=(RW.out.below b0).below b1
   have RR:Hid (Row w1 va l.length (Aq l)):=R1
   have B1' :Hid _:=B1
   clear b0 b1 R1 hM B1 hmp;go_wp2_with fail;refine(Ca _ _ _ _).mono ?_
   rw[hG]
   rintro e w2 ⟨rfl,b2⟩
   have B2:Below w.heap.size w w2:=Below.and B1'.out b2
   have R2:Hid (Row w2 va l.length (Aq l)):=RR.out.below b2
   have B2s:=B2.size
   clear hc b2 hG;have Hb:Hid (w.heap.size<=(w2.alloc (.cells #[] 41)).heap.size):=by show _<=_;simp;omega
   go_wp2_with (at_builtin;refine Fj (w2.alloc (.cells #[] 41)) rfl _ _ 26 rfl w.heap.size 41 i0 _ 2 16 Tryz.underlying26 hi hz0 hz1 hz2 rfl (by decide) (.slice (some ⟨w2.heap.size,0,none⟩) 0 0) 0 [] rfl (De w2 w.heap.size 41 2 B2s) va l.length (Aq l) rfl (R2.out.below ((Below.refl _ _).alloc (Nat.le_refl _) _)) (Cr _) (El _) HR.out.1 HR.out.2 Hb.out ?_)
   intro v' w3 ho3 _ hb3;have B3:Below w.heap.size w w3:=(B2.alloc B2s _).trans hb3
   clear hb3 B2;go_wp2;go_ret;rw[E.out]
   exact⟨_,rfl,by simpa using ho3,B3⟩
  ·have E:Hid (doL l (o,k,v)=doP l (o,k,v)):=Uw hM hG
   obtain⟨⟨ho1,ho4⟩,⟨hk0,hk9⟩,hv0,hv9⟩:=Cw hG
   obtain⟨hg0,hg9⟩:=RV hmp k
   have ASC:Hid (Asc l):=hmp.1
   clear h hva;go_enter Tryz.func110,Tryz.ntmps110
   go_wp2_with fail;refine(CY va l _ (RW.out.below b0)).mono ?_
   rw[hM]
   rintro e w1 ⟨rfl,b1⟩
   have B1:Below w.heap.size w w1:=Below.and b0 b1
   obtain⟨hc,_⟩:=Pq b1
   have R1:Row w1 va l.length (Aq l):=(RW.out.below b0).below b1
   have RR:Hid (Row w1 va l.length (Aq l)):=R1
   have B1' :Hid (Below w.heap.size w w1):=B1
   have b1' :Hid _:=b1
   clear b1 R1 hM B1 hmp;go_wp2_with fail;refine(Ca _ _ _ _).mono ?_
   rw[hG]
   rintro e w2 ⟨rfl,b2⟩
   have B2:Below w.heap.size w w2:=Below.and B1'.out b2
   have R2:Hid (Row w2 va l.length (Aq l)):=RR.out.below b2
   have b3:=Below.and b1'.out b2
   obtain⟨hc3,_⟩:=Pq b3
   have B2' :Hid (Below w.heap.size w w2):=B2
   clear hc b2 hG b1' B1' RR b3 B2 b0;go_wp2_with fail;refine(Kk _ l _ _ R2.out).mono ?_
   rintro e w3 ⟨rfl,rfl⟩
   generalize hgp:Aw l k=G at *
   obtain⟨g,gb⟩:=G
   simp only at hg0 hg9
   rcases(show o=1∨o=2∨o=3∨o=4 from by omega) with rfl|rfl|rfl|rfl
   ·have E2:Hid (doP l (1,k,v)=BH l k v):=by show doP _ _=_;simp[doP]
    clear hgp;go_wp2_with fail;refine(MD _ l _ _ _ R2.out hn ASC.out).mono ?_
    rintro e w4 ⟨v',rfl,o4,b4⟩
    go_wp2;go_ret;rw[E.out,E2.out]
    exact⟨_,rfl,AK o4 B2'.out.size,Below.and B2'.out b4⟩
   ·have E2:Hid (doP l (2,k,v)=C5 l k):=by show doP _ _=_;simp[doP]
    clear hgp;go_wp2_with fail;refine(Mp _ l _ _ R2.out (by omega)).mono ?_
    rintro e w4 ⟨v',rfl,o4,b4⟩
    go_wp2;go_ret;rw[E.out,E2.out]
    exact⟨_,rfl,AK o4 B2'.out.size,Below.and B2'.out b4⟩
   ·have E2:Hid (doP l (3,k,v)=BH l k (A0 (g+v))):=by show doP _ _=_;simp[doP,hgp]
    have hw:IntKind.i64.wrap (g+v)=g+v:=KU _ (by omega) (by omega)
    clear hgp;go_wp2_with fail;go_region_with (first|(go_at_call 113;refine(JO _ _).mono ?_;rintro e w' ⟨rfl,rfl⟩)|(go_at_call 87;refine(MD _ l _ _ _ (R2.out.below (by exact(Below.refl _ _).drew)) hn ASC.out).mono ?_;rintro e w4 ⟨v',rfl,o4,b4⟩))
    all_goals
     go_wp2;go_ret;rw[E.out,E2.out]
     exact⟨_,rfl,AK o4 B2'.out.size,B2'.out.drew.trans (b4.mono B2'.out.size)⟩
   ·have E2:Hid (doP l (4,k,v)=l):=by show doP _ _=_;simp[doP]
    clear hgp;have B2s:=B2'.out.size
    have Hb:Hid (w.heap.size<=(w3.alloc (.cells #[] 41)).heap.size):=by show _<=_;simp;omega
    go_wp2_with (at_builtin;refine Fj (w3.alloc (.cells #[] 41)) rfl _ _ 26 rfl w.heap.size 41 i0 _ 2 16 Tryz.underlying26 hi hz0 hz1 hz2 rfl (by decide) (.slice (some ⟨w3.heap.size,0,none⟩) 0 0) 0 [] rfl (De w3 w.heap.size 41 2 B2s) va l.length (Aq l) rfl (R2.out.below ((Below.refl _ _).alloc (Nat.le_refl _) _)) (Cr _) (El _) HR.out.1 HR.out.2 Hb.out ?_)
    intro v' w4 ho3 _ hb3;have B3:Below w.heap.size w w4:=(B2'.out.alloc B2s _).trans hb3
    clear hb3;go_wp2;go_ret;rw[E.out,E2.out]
    exact⟨_,rfl,by simpa using ho3,B3⟩
end
section
open Go.RowKit

def Dz (w:World) (B:Nat) (F:Nat->Prop) (l:PL):Prop:=Srt w B F (Be l) (EH l)
theorem Dz.below {w w' :World} {B:Nat} {F:Nat->Prop} {l:PL} (h:Dz w B F l) (hb:Below w.heap.size w w'):Dz w' B F l:=Srt.chg h (Chg.of_below (F:=fun _=>False) hb) (fun _ _ e=>e)

theorem Hv (B:Nat) (F:Nat->Prop) (l:PL) (k v:Int) (w:World) (h:Dz w B F l) (hs:Asc l) (hbig:l.length<=1048576) :
  Calls Tryz.prog 102 #[.pointer (some ⟨B,0,none⟩), .int .i64 k, .int .i64 v] w fun e w'=>
   e= .returned (.tuple #[])/\∃F',Dz w' B F' (BH l k v)/\Chg F w w' ∧(∀g,F' g->F g∨w.heap.size<=g):=by
 have hl:(EH l).length=(Be l).length:=by rw[CG,Ej]
 have hb:(Be l).length<=1048576:=by rw[CG];exact hbig
 cases hf:(Be l).contains k
 ·refine(Vz B F (Be l) (EH l) k v w h hs.le hl hb hf).mono ?_
  rintro e w' ⟨rfl,F',h1,h2,h3⟩
  refine⟨rfl,F', ?_,h2,h3⟩
  obtain⟨e1,e2⟩:=NZ (v:=v) hs hf
  rw[Dz,e1,e2];exact h1
 ·refine(Ub B F (Be l) (EH l) k v w h hs.le hl hb hf).mono ?_
  rintro e w' ⟨rfl,F',h1,h2,h3⟩
  refine⟨rfl,F', ?_,h2,h3⟩
  obtain⟨e1,e2⟩:=LE (v:=v) hs hf
  rw[Dz,e1,e2];exact h1

theorem Uz (B:Nat) (F:Nat->Prop) (l:PL) (k:Int) (w:World) (h:Dz w B F l) (hs:Asc l) (hbig:l.length<=1048576) :
  Calls Tryz.prog 104 #[.pointer (some ⟨B,0,none⟩), .int .i64 k] w fun e w'=>
   e= .returned (.tuple #[])/\∃F',Dz w' B F' (C5 l k)/\Chg F w w' ∧(∀g,F' g->F g∨w.heap.size<=g):=by
 have hl:(EH l).length=(Be l).length:=by rw[CG,Ej]
 have hb:(Be l).length<=1048576:=by rw[CG];exact hbig
 cases hf:(Be l).contains k
 ·refine(Tz B F (Be l) (EH l) k w h hs.le hb hf).mono ?_
  rintro e w' ⟨rfl,q,rfl⟩
  refine⟨rfl,F, ?_,(Chg.refl _ _).drewN q,fun _ hg=>Or.inl hg⟩
  rw[UP hf]
  exact Dz.below h (below_drewN (Below.refl _ _) q)
 ·refine(QR B F (Be l) (EH l) k w h hs.le hl hb hf).mono ?_
  rintro e w' ⟨rfl,F',h1,h2,h3⟩
  refine⟨rfl,F', ?_,h2,h3⟩
  obtain⟨e1,e2⟩:=Ls hs hf
  rw[Dz,e1,e2];exact h1

theorem RZ (B:Nat) (F:Nat->Prop) (l:PL) (k:Int) (w:World) (h:Dz w B F l) (hs:Asc l) (hbig:l.length<=1048576) :
  Calls Tryz.prog 105 #[.pointer (some ⟨B,0,none⟩), .int .i64 k] w fun e w' =>e= .returned (.tuple #[.int .i64 (Aw l k).1, .bool (Aw l k).2])/\∃q,w' =w.drewN q:=by
 have hl:(EH l).length=(Be l).length:=by rw[CG,Ej]
 have hb:(Be l).length<=1048576:=by rw[CG];exact hbig
 have:=VU B F (Be l) (EH l) k w h hs.le hl hb
 rw[show On (Be l) (EH l) k=Aw l k from Vk hs k] at this
 exact this

theorem Ut (B:Nat) (F:Nat->Prop) (l:PL) (o k v:Int) (w:World) (h:Dz w B F l) (hmp:Cy l) (hm:AJ o k v=true) (hbig:l.length<=1048576) :
  Calls Tryz.prog 69 #[.pointer (some ⟨B,0,none⟩),Cj (o,k,v)] w fun e w'=>
   e= .returned (.tuple #[])/\∃F',Dz w' B F' (doP l (o,k,v))/\Chg F w w' ∧(∀g,F' g->F g∨w.heap.size<=g):=by
 obtain⟨⟨ho1,ho4⟩,_,hv0,hv9⟩:=Cw hm
 obtain⟨hg0,hg9⟩:=RV hmp k
 have ASC:Hid (Asc l):=hmp.1
 have SH:Hid (Dz w B F l):=h
 clear h hmp hm;rcases(show o=1∨o=2∨o=3∨o=4 from by omega) with rfl|rfl|rfl|rfl
 ·have E:Hid (doP l (1,k,v)=BH l k v):=by show doP _ _=_;simp[doP]
  rw[show Cj (1,k,v)= .iface 142 (.agg #[.int .i64 k, .int .i64 v]) from rfl]
  have b0:Below w.heap.size w (w.alloc (.cells #[.int .i64 k, .int .i64 v] 142)):=(Below.refl _ _).alloc (Nat.le_refl _) _
  have S0:Hid _:=And.intro (SH.out.below b0) b0
  clear b0;have t99:=LX k v
  go_enter Tryz.func69,Tryz.ntmps69
  go_wp2_with fail;refine(Hv B F l _ _ _ S0.out.1 ASC.out hbig).mono ?_
  rintro e w1 ⟨rfl,F',h1,h2,h3⟩
  have FIN:Hid _:=And.intro h1 (And.intro ((Chg.of_below S0.out.2).trans h2 (fun _ _ e=>e)) h3)
  clear h1 h2 h3;go_wp2;go_end0
  rw[E.out]
  exact⟨rfl,F',FIN.out.1,FIN.out.2.1,fun g hg=>(FIN.out.2.2 g hg).imp id (fun h=>Nat.le_trans S0.out.2.size h)⟩
 ·have E:Hid (doP l (2,k,v)=C5 l k):=by show doP _ _=_;simp[doP]
  rw[show Cj (2,k,v)= .iface 144 (.agg #[.int .i64 k]) from rfl]
  have b0:Below w.heap.size w (w.alloc (.cells #[.int .i64 k] 144)):=(Below.refl _ _).alloc (Nat.le_refl _) _
  have S0:Hid _:=And.intro (SH.out.below b0) b0
  clear b0;have t99:=Jt k
  have t105:=Mb k
  go_enter Tryz.func69,Tryz.ntmps69
  go_wp2_with fail;refine(Uz B F l _ _ S0.out.1 ASC.out hbig).mono ?_
  rintro e w1 ⟨rfl,F',h1,h2,h3⟩
  have FIN:Hid _:=And.intro h1 (And.intro ((Chg.of_below S0.out.2).trans h2 (fun _ _ e=>e)) h3)
  clear h1 h2 h3;go_wp2;go_end0
  rw[E.out]
  exact⟨rfl,F',FIN.out.1,FIN.out.2.1,fun g hg=>(FIN.out.2.2 g hg).imp id (fun h=>Nat.le_trans S0.out.2.size h)⟩
 ·have E:Hid (doP l (3,k,v)=BH l k (A0 ((Aw l k).1+v))):=by show doP _ _=_;simp[doP]
  rw[show Cj (3,k,v)= .iface 146 (.agg #[.int .i64 k, .int .i64 v]) from rfl]
  have b0:Below w.heap.size w (w.alloc (.cells #[.int .i64 k, .int .i64 v] 146)):=(Below.refl _ _).alloc (Nat.le_refl _) _
  have S0:Hid (Dz (w.alloc (.cells #[.int .i64 k, .int .i64 v] 146)) B F l):=SH.out.below b0
  have B0:Hid _:=b0
  clear b0;have t99:=Js k v
  have t105:=LF k v
  have t101:=Lz k v
  go_enter Tryz.func69,Tryz.ntmps69
  go_wp2_with fail;refine(RZ B F l _ _ S0.out ASC.out hbig).mono ?_
  rintro e w1 ⟨rfl,q,rfl⟩
  generalize (Aw l k).1=g at *
  generalize (Aw l k).2=gb at *
  have S1:Hid (∀n,Dz ((w.alloc (.cells #[.int .i64 k, .int .i64 v] 146)).drewN n) B F l):=fun n=>S0.out.below (below_drewN (Below.refl _ _) n)
  clear t99 t105 t101;go_wp2_with fail;go_region_with (first|(go_at_call 106;refine(Hf _ _ _ hg0 hg9 hv0 hv9).mono ?_;rintro e w' ⟨rfl,rfl⟩)|(go_at_call 102;refine(Hv B F l _ _ _ (by exact Dz.below (S1.out q) (Below.refl _ _).drew) ASC.out hbig).mono ?_;rintro e w1 ⟨rfl,F',h1,h2,h3⟩))
  all_goals
   have FIN:Hid _:=And.intro h1 (And.intro ((Chg.of_below (F:=F) ((below_drewN B0.out q).drew)).trans h2 (fun _ _ e=>e)) h3)
   clear h1 h2 h3;go_wp2;go_end0
   rw[E.out]
   exact⟨rfl,F',FIN.out.1,FIN.out.2.1,fun g' hg' =>(FIN.out.2.2 g' hg').imp id (fun h=>Nat.le_trans B0.out.size h)⟩
 ·have E:Hid (doP l (4,k,v)=l):=by show doP _ _=_;simp[doP]
  rw[show Cj (4,k,v)= .iface 149 (.agg #[.int .i64 k]) from rfl]
  have b0:Below w.heap.size w (w.alloc (.cells #[.int .i64 k] 149)):=(Below.refl _ _).alloc (Nat.le_refl _) _
  have S0:Hid _:=And.intro (SH.out.below b0) b0
  clear b0;have t99:=Jc k
  have t105:=Le k
  have t101:=LI k
  have t107:=Ku k
  go_enter Tryz.func69,Tryz.ntmps69
  go_wp2;go_end0
  rw[E.out]
  exact⟨rfl,F,S0.out.1,Chg.of_below S0.out.2,fun g hg=>Or.inl hg⟩

theorem Vh {A:PL} {p:Int × Int} (h:∀q∈A,q.1<p.1):BH A p.1 p.2=A++[p]:=by
 have h1:A.filter (fun q=>decide (q.1<p.1))=A:=List.filter_eq_self.2 (fun q hq=>by have:=h q hq;simp;omega)
 have h2:A.filter (fun q=>decide (p.1<q.1))=[]:=List.filter_eq_nil_iff.2 (fun q hq=>by have:=h q hq;simp;omega)
 rw[BH,h1,h2]
theorem Ur {l:PL} (h:Asc l) (k:Nat):Asc (l.take k):=by
 have:Be (l.take k)=(Be l).take k:=by simp[Be,List.map_take]
 rw[Asc,this]
 exact List.Pairwise.sublist (List.take_sublist _ _) h
theorem Qd {l:PL} (h:Asc l) (k:Nat) (hk:k<l.length):∀q∈l.take k,q.1<kOf l k:=by
 intro q hq;obtain⟨i,hi,rfl⟩:=List.getElem_of_mem hq
 have hik:i<k:=by simp at hi;omega
 have hil:i<l.length:=by omega
 have:=List.pairwise_iff_getElem.1 (List.pairwise_map.1 h) i k hil hk hik
 simp only[kOf,List.getD,List.getElem?_eq_getElem hk,Option.getD_some,List.getElem_take]
 exact this
theorem UG {l:PL} (h:Asc l) (k:Nat) (hk:k<l.length):BH (l.take k) (kOf l k) (vOf l k)=l.take (k+1):=by
 rw[Gu l k hk]
 exact Vh (p:=(kOf l k,vOf l k)) (Qd h k hk)
end
section
open Go.RowKit

theorem Nf {w:World} {base e size n:Nat} {v:Value} {xs:List Value} (h:w.ownsRow 0 e size v n xs) (hb:∀g,v.ownBlock=some g->base<=g):w.ownsRow base e size v n xs:=by
 obtain⟨hl,h|⟨g,cap,cur,rfl,hg,hh,hn,hcap,hsz,htake⟩⟩:=h
 ·exact⟨hl, .inl h⟩
 ·exact⟨hl, .inr ⟨g,cap,cur,rfl,hb g rfl,hh,hn,hcap,hsz,htake⟩⟩

theorem Oo (va:Value) (l:PL) (w:World) (h:Row w va l.length (Aq l)) (hasc:Asc l) (hn:l.length<=1048576) :
  Calls Tryz.prog 67 #[va] w fun e w' =>∃kv vv,e= .returned (.agg #[kv,vv])/\w'.ownsRow w.heap.size 3 1 kv l.length ((Be l).map (Value.int .i64))/\w'.ownsRow w.heap.size 3 1 vv l.length ((EH l).map (Value.int .i64))∧
   (∀g,kv.ownBlock=some g->vv.ownBlock≠some g)/\Below w.heap.size w w' :=by
 obtain⟨a,b,off,cap,rfl,hcap,hmax,ha,hk,hv⟩:=h.pairs
 unfold maxLen at hmax;have ASC:Hid (Asc l):=hasc
 clear hasc h;have hs0:((w.alloc (.cells #[.slice none 0 0, .slice none 0 0] 102)).alloc (.cells #[.slice none 0 0, .slice none 0 0] 102)).heap.size=w.heap.size+1+1:=by simp
 have hs1:(w.alloc (.cells #[.slice none 0 0, .slice none 0 0] 102)).heap.size=w.heap.size+1:=by simp
 have hB0:((w.alloc (.cells #[.slice none 0 0, .slice none 0 0] 102)).alloc (.cells #[.slice none 0 0, .slice none 0 0] 102)).heap[w.heap.size+1]? =some (.cells #[.slice none 0 0, .slice none 0 0] 102 (0,0)):=by
  rw[←hs1];exact heap_alloc_new _ _
 have hA0:((w.alloc (.cells #[.slice none 0 0, .slice none 0 0] 102)).alloc (.cells #[.slice none 0 0, .slice none 0 0] 102)).heap[w.heap.size]? =some (.cells #[.slice none 0 0, .slice none 0 0] 102 (0,0)):=by
  rw[Below.heap_alloc _ _ _ (by omega)];exact heap_alloc_new _ _
 have START:Hid (Dz ((w.alloc (.cells #[.slice none 0 0, .slice none 0 0] 102)).alloc (.cells #[.slice none 0 0, .slice none 0 0] 102)) (w.heap.size+1) (fun g=>g=w.heap.size+1) []):=
  ⟨.slice none 0 0, .slice none 0 0,hB0,World.ownsRow_nil _ _ _ _,World.ownsRow_nil _ _ _ _,fun g hg=>by simp[Value.ownBlock] at hg,rfl,fun g hg=>by simp[Value.ownBlock] at hg,fun g hg=>by simp[Value.ownBlock] at hg⟩
 have b0:Below w.heap.size w ((w.alloc (.cells #[.slice none 0 0, .slice none 0 0] 102)).alloc (.cells #[.slice none 0 0, .slice none 0 0] 102)):=((Below.refl _ _).alloc (Nat.le_refl _) _).alloc (by simp) _
 have BB:Hid _:=b0
 have HA:Hid _:=hA0
 clear b0 hA0 hB0;go_enter Tryz.func67,Tryz.ntmps67
 go_wp2;generalize hW0:(w.alloc (.cells #[.slice none 0 0, .slice none 0 0] 102)).alloc (.cells #[.slice none 0 0, .slice none 0 0] 102)=W0 at *
 clear hW0;go_loopw [8] (fun i wr=>∃(k:Nat) (F:Nat->Prop),k<=l.length/\i= .int .i64 k/\Dz wr (w.heap.size+1) F (l.take k)/\(∀g,F g->w.heap.size+1<=g)/\Below (w.heap.size+1) W0 wr)
  (fun i _=>l.length-(intOf i).toNat)
 case atStart=>exact⟨0,_,Nat.zero_le _,rfl,START.out,fun g hg=>by omega,Below.refl _ _⟩
 case round=>
  obtain⟨k,F,hkl,rfl,hsrt,hF,hb⟩:=hrel
  have hbw:Below w.heap.size w wr:=BB.out.trans (hb.mono (by omega))
  have hbs:=hb.size
  by_cases hlt:k<l.length
  ·have hal:=ha (by omega)
   subst hal;have d0:=(hbw.cell (by exact Aa (hk k hlt))).trans (hk k hlt)
   have d1:=(hbw.cell (by exact Aa (hv k hlt))).trans (hv k hlt)
   have TP:Hid _:=UG ASC.out k hlt
   have htl:(l.take k).length<=k:=List.length_take_le _ _
   have AT:Hid _:=Ur ASC.out k
   have ba:Below wr.heap.size wr (wr.alloc (.cells #[.int .i64 (kOf l k), .int .i64 (vOf l k)] 41)):=(Below.refl _ _).alloc (Nat.le_refl _) _
   have SA:Hid _:=Dz.below hsrt ba
   have INFO:Hid _:=And.intro ba (And.intro hF hb)
   clear hk hv hsrt hF hb hbw ba;go_wp2_with fail;refine(Hv (w.heap.size+1) F (l.take k) _ _ _ SA.out AT.out (by omega)).mono ?_
   rintro e w1 ⟨rfl,F',h1,h2,h3⟩
   obtain⟨ba,hF,hb⟩:=INFO.out
   have hc:Chg F wr w1:=(Chg.of_below ba).trans h2 (fun _ _ e=>e)
   have B1:Below (w.heap.size+1) W0 w1:=hb.trans (hc.below (fun g _ hg=>hF g hg) (by omega))
   have F1:∀g,F' g->w.heap.size+1<=g:=fun g hg=>(h3 g hg).elim (hF g) (fun hh=>by have:=ba.size;omega)
   rw[TP.out] at h1
   have FIN:Hid _:=And.intro h1 (And.intro F1 B1)
   clear h1 h2 h3 hc B1 F1 ba hF hb INFO;go_wp2;go_roundw
   case rel=>exact⟨k+1,F',by omega,by go_num,FIN.out.1,FIN.out.2.1,FIN.out.2.2⟩
   case measure=>simp[intOf];omega
  ·have hkk:k=l.length:=by omega
   subst hkk;rw[List.take_of_length_le (Nat.le_refl _)] at hsrt
   obtain⟨kv,vv,h1,h2,h3,h4,h5,h6,h7⟩:=hsrt
   obtain⟨ka,kc,hkv⟩:=Bk h2
   obtain⟨vva,vc,hvv⟩:=Bk h3
   have c0:wr.cell? ⟨w.heap.size+1,0,none⟩=some kv:=by rw[Ae h1];rfl
   have c1:wr.cell? ⟨w.heap.size+1,1,none⟩=some vv:=by rw[Ae h1];rfl
   have hA:=(hb.block w.heap.size (by omega)).trans HA.out
   have e0:wr.cell? ⟨w.heap.size,0,none⟩=some (.slice none 0 0):=by rw[Ae hA];rfl
   have e1:wr.cell? ⟨w.heap.size,1,none⟩=some (.slice none 0 0):=by rw[Ae hA];rfl
   have f0:wr.frozen? ⟨w.heap.size,0,none⟩=false:=AC hA
   have f1:wr.frozen? ⟨w.heap.size,1,none⟩=false:=AC hA
   have hch:Chg (fun g=>g=w.heap.size) wr ((wr.setCell ⟨w.heap.size,0,none⟩ kv).setCell ⟨w.heap.size,1,none⟩ vv):=Chg.setAt (F:=fun g=>g=w.heap.size) (Chg.setAt (F:=fun g=>g=w.heap.size) (Chg.refl _ _) _ _ rfl _) _ _ rfl _
   have k2:=Nf (base:=w.heap.size) (Az h2 hch (fun g hg e=>by have:=hF g (h6 g hg);omega)) (fun g hg=>by have:=hF g (h6 g hg);omega)
   have v2:=Nf (base:=w.heap.size) (Az h3 hch (fun g hg e=>by have:=hF g (h7 g hg);omega)) (fun g hg=>by have:=hF g (h7 g hg);omega)
   have B2:Below w.heap.size w ((wr.setCell ⟨w.heap.size,0,none⟩ kv).setCell ⟨w.heap.size,1,none⟩ vv):=(hbw.setCell (Nat.le_refl _) _).setCell (Nat.le_refl _) _
   rw[CG] at k2 hkv
   rw[Ej] at v2 hvv
   rw[hkv] at c0 k2 h4 B2 v2
   rw[hvv] at c1 v2 h4 B2 k2
   have hA2:((wr.setCell ⟨w.heap.size,0,none⟩ (.slice ka l.length kc)).setCell ⟨w.heap.size,1,none⟩ (.slice vva l.length vc)).heap[w.heap.size]? =some (.cells #[.slice ka l.length kc, .slice vva l.length vc] 102 (0,0)):=by
    rw[heap_setCell_same _ _ _ _ _ _ (heap_setCell_same wr _ _ _ _ _ hA)];rfl
   have q0:((wr.setCell ⟨w.heap.size,0,none⟩ (.slice ka l.length kc)).setCell ⟨w.heap.size,1,none⟩ (.slice vva l.length vc)).cell? ⟨w.heap.size,0,none⟩=some (.slice ka l.length kc):=by rw[Ae hA2];rfl
   have q1:((wr.setCell ⟨w.heap.size,0,none⟩ (.slice ka l.length kc)).setCell ⟨w.heap.size,1,none⟩ (.slice vva l.length vc)).cell? ⟨w.heap.size,1,none⟩=some (.slice vva l.length vc):=by rw[Ae hA2];rfl
   have FIN:Hid _:=And.intro k2 (And.intro v2 (And.intro h4 B2))
   clear h1 h2 h3 h4 h5 h6 h7 hkv hvv hA hA2 hch k2 v2 B2 hF hb hbw hbs hk hv;go_wp2;refine bodyPost_ret (v:= .agg #[.slice ka l.length kc, .slice vva l.length vc]) (by simp[results,Tryz.results67,go_sem,q0,q1]) rfl ?_
   exact⟨_,_,rfl,FIN.out.1,FIN.out.2.1,FIN.out.2.2.1,FIN.out.2.2.2⟩

theorem V6 (l:PL) (i:Nat) (h:i<l.length):((Be l).map (Value.int .i64))[i]? =some (.int .i64 (kOf l i)):=by simp[Be,kOf,List.getD,h]
theorem VI (l:PL) (i:Nat) (h:i<l.length):((EH l).map (Value.int .i64))[i]? =some (.int .i64 (vOf l i)):=by simp[EH,vOf,List.getD,h]

theorem Oz (kv vv:Value) (l:PL) (w:World) (h1:Row w kv l.length ((Be l).map (Value.int .i64))) (h2:Row w vv l.length ((EH l).map (Value.int .i64))) (hn:l.length<=2097152) :
  Calls Tryz.prog 70 #[.agg #[kv,vv]] w fun e w' =>∃v',e= .returned v' ∧w'.ownsRow w.heap.size 41 2 v' l.length (Aq l)/\Below w.heap.size w w' :=by
 obtain⟨i0,hi,hz0,hz1,hz2⟩:=info_parts Tryz.info41
 obtain⟨a,b,off,cap,rfl,hcap,hmax,ha,hk,_⟩:=h1
 obtain⟨a2,b2,off2,cap2,rfl,hcap2,hmax2,ha2,hv,_⟩:=h2
 unfold maxLen at hmax hmax2;have b0:Below w.heap.size w (w.alloc (.cells #[.slice a l.length cap, .slice a2 l.length cap2] 102)):=(Below.refl _ _).alloc (Nat.le_refl _) _
 have hs0:(w.alloc (.cells #[.slice a l.length cap, .slice a2 l.length cap2] 102)).heap.size=w.heap.size+1:=by simp
 have hB:=heap_alloc_new w (.cells #[.slice a l.length cap, .slice a2 l.length cap2] 102)
 have BB:Hid _:=And.intro b0 hB
 clear b0 hB;go_enter Tryz.func70,Tryz.ntmps70
 go_wp2;generalize hW0:w.alloc (.cells #[.slice a l.length cap, .slice a2 l.length cap2] 102)=W0 at *
 clear hW0;go_loopw [3,9] (fun out i wr=>∃k:Nat,k<=l.length/\i= .int .i64 k/\wr.ownsRow (w.heap.size+1) 41 2 out (l.take k).length (Aq (l.take k))/\Below (w.heap.size+1) W0 wr)
  (fun _ i _=>l.length-(intOf i).toNat)
 case atStart=>exact⟨0,Nat.zero_le _,rfl,World.ownsRow_nil _ _ _ _,Below.refl _ _⟩
 case round=>
  obtain⟨k,hkl,rfl,hown,hb⟩:=hrel
  have hbw:Below w.heap.size w wr:=BB.out.1.trans (hb.mono (by omega))
  have hbs:=hb.size
  by_cases hlt:k<l.length
  ·have hal:=ha (by omega)
   subst hal;have hal2:=ha2 (by omega)
   subst hal2;have c0:=hk k _ (V6 l k hlt)
   have c1:=hv k _ (VI l k hlt)
   have d0:=(hbw.cell (by exact Aa c0)).trans c0
   have d1:=(hbw.cell (by exact Aa c1)).trans c1
   have hA:=(hb.block w.heap.size (by omega)).trans BB.out.2
   have e1:wr.cell? ⟨w.heap.size,1,none⟩=some (.slice (some ⟨b2,off2,none⟩) l.length cap2):=by rw[Ae hA];rfl
   have DS:Hid _:=Gu l k hlt
   have htl:(l.take k).length<=k:=List.length_take_le _ _
   generalize l.take k=D at *
   have HR:Hid _:=Bb (n:=D.length) (bytes:=16) (by omega) (by decide)
   have hbs1:w.heap.size+1<=wr.heap.size:=by omega
   clear hk hv c0 c1 hA hbw;go_wp2_with (at_builtin;refine Bm wr rfl _ _ 26 rfl (w.heap.size+1) 41 i0 _ 2 16 Tryz.underlying26 hi hz0 hz1 hz2 rfl (by decide) u3 _ _ rfl hown [.int .i64 (kOf l k), .int .i64 (vOf l k)] rfl rfl (Fk _ _) HR.out.1 HR.out.2 hbs1 ?_)
   intro v1 w1 ho1 _ hb1;rw[Dy] at ho1
   have hb2:=hb.trans hb1
   clear d0 d1 hown hb hb1 hbs;go_wp2;go_roundw
   case rel=>exact⟨k+1,by omega,by go_num,by rw[DS.out,List.length_append];exact ho1,hb2⟩
   case measure=>simp[intOf];omega
  ·have hkk:k=l.length:=by omega
   subst hkk;rw[List.take_of_length_le (Nat.le_refl _)] at hown
   have FIN:Hid _:=And.intro (AK hown (show w.heap.size<=w.heap.size+1 by omega)) hbw
   clear hown hbw hb;go_wp2;go_ret;exact⟨_,rfl,FIN.out.1,FIN.out.2⟩
end
end Go.Proofs.YtadmomgdacfgpaaGreat
