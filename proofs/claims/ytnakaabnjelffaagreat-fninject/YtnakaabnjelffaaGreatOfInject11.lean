/-
  The program's sorted map made of a list of pairs, and told as one.
  The contracts of the program's MapAll and MapDo.
  The contract of the model's MapAll.
  Contracts of chapter 3's Pending and TreeGet, of the model and of the program.
  Contracts of the model's TreeMap and TreeRange.
  Contracts of the model's l4At, l4Split.
-/
import Derived.Test.YtnakaabnjelffaaGreatOfInject10
import Derived.Deep.LoopGhost
import Derived.Deep.RegionWith
import Derived.Test.YtnakaabnjelffaaGreatOfInject7
import Derived.Test.YtnakaabnjelffaaGreatOfInject9
namespace Go.Proofs.YtnakaabnjelffaaGreat
set_option maxRecDepth 100000
set_option maxHeartbeats 8000000
section
open Go.RowKit

theorem Ow {w:World} {base e size n:Nat} {v:Value} {xs:List Value} (h:w.ownsRow 0 e size v n xs) (hb:∀g,v.ownBlock=some g->base<=g):w.ownsRow base e size v n xs:=by
 obtain⟨hl,h|⟨g,cap,cur,rfl,hg,hh,hn,hcap,hsz,htake⟩⟩:=h
 ·exact⟨hl, .inl h⟩
 ·exact⟨hl, .inr ⟨g,cap,cur,rfl,hb g rfl,hh,hn,hcap,hsz,htake⟩⟩

theorem Pl (va:Value) (l:PL) (w:World) (h:Row w va l.length (Au l)) (hasc:Asc l) (hn:l.length<=1048576) :
  Calls Tryz.prog 83 #[va] w fun e w' =>∃kv vv,e= .returned (.agg #[kv,vv])/\w'.ownsRow w.heap.size 3 1 kv l.length ((Bn l).map (Value.int .i64))/\w'.ownsRow w.heap.size 3 1 vv l.length ((Fd l).map (Value.int .i64))∧
   (∀g,kv.ownBlock=some g->vv.ownBlock≠some g)/\Below w.heap.size w w' :=by
 obtain⟨a,b,off,cap,rfl,hcap,hmax,ha,hk,hv⟩:=h.pairs
 unfold maxLen at hmax;have ASC:Hid (Asc l):=hasc
 clear hasc h;have hs0:((w.alloc (.cells #[.slice none 0 0, .slice none 0 0] 114)).alloc (.cells #[.slice none 0 0, .slice none 0 0] 114)).heap.size=w.heap.size+1+1:=by simp
 have hs1:(w.alloc (.cells #[.slice none 0 0, .slice none 0 0] 114)).heap.size=w.heap.size+1:=by simp
 have hB0:((w.alloc (.cells #[.slice none 0 0, .slice none 0 0] 114)).alloc (.cells #[.slice none 0 0, .slice none 0 0] 114)).heap[w.heap.size+1]? =some (.cells #[.slice none 0 0, .slice none 0 0] 114 (0,0)):=by
  rw[←hs1];exact heap_alloc_new _ _
 have hA0:((w.alloc (.cells #[.slice none 0 0, .slice none 0 0] 114)).alloc (.cells #[.slice none 0 0, .slice none 0 0] 114)).heap[w.heap.size]? =some (.cells #[.slice none 0 0, .slice none 0 0] 114 (0,0)):=by
  rw[Below.heap_alloc _ _ _ (by omega)];exact heap_alloc_new _ _
 have START:Hid (DW ((w.alloc (.cells #[.slice none 0 0, .slice none 0 0] 114)).alloc (.cells #[.slice none 0 0, .slice none 0 0] 114)) (w.heap.size+1) (fun g=>g=w.heap.size+1) []):=
  ⟨.slice none 0 0, .slice none 0 0,hB0,World.ownsRow_nil _ _ _ _,World.ownsRow_nil _ _ _ _,fun g hg=>by simp[Value.ownBlock] at hg,rfl,fun g hg=>by simp[Value.ownBlock] at hg,fun g hg=>by simp[Value.ownBlock] at hg⟩
 have b0:Below w.heap.size w ((w.alloc (.cells #[.slice none 0 0, .slice none 0 0] 114)).alloc (.cells #[.slice none 0 0, .slice none 0 0] 114)):=((Below.refl _ _).alloc (Nat.le_refl _) _).alloc (by simp) _
 have BB:Hid _:=b0
 have HA:Hid _:=hA0
 clear b0 hA0 hB0;go_enter Tryz.func83,Tryz.ntmps83
 go_wp2;generalize hW0:(w.alloc (.cells #[.slice none 0 0, .slice none 0 0] 114)).alloc (.cells #[.slice none 0 0, .slice none 0 0] 114)=W0 at *
 clear hW0;go_loopw [8] (fun i wr=>∃(k:Nat) (F:Nat->Prop),k<=l.length/\i= .int .i64 k/\DW wr (w.heap.size+1) F (l.take k)/\(∀g,F g->w.heap.size+1<=g)/\Below (w.heap.size+1) W0 wr)
  (fun i _=>l.length-(intOf i).toNat)
 case atStart=>exact⟨0,_,Nat.zero_le _,rfl,START.out,fun g hg=>by omega,Below.refl _ _⟩
 case round=>
  obtain⟨k,F,hkl,rfl,hsrt,hF,hb⟩:=hrel
  have hbw:Below w.heap.size w wr:=BB.out.trans (hb.mono (by omega))
  have hbs:=hb.size
  by_cases hlt:k<l.length
  ·have hal:=ha (by omega)
   subst hal;have d0:=(hbw.cell (by exact Aa (hk k hlt))).trans (hk k hlt)
   have d1:=(hbw.cell (by exact Aa (hv k hlt))).trans (hv k hlt)
   have TP:Hid _:=Wn ASC.out k hlt
   have htl:(l.take k).length<=k:=List.length_take_le _ _
   have AT:Hid _:=W8 ASC.out k
   have ba:Below wr.heap.size wr (wr.alloc (.cells #[.int .i64 (kOf l k), .int .i64 (vOf l k)] 63)):=(Below.refl _ _).alloc (Nat.le_refl _) _
   have SA:Hid _:=DW.below hsrt ba
   have INFO:Hid _:=And.intro ba (And.intro hF hb)
   clear hk hv hsrt hF hb hbw ba;go_wp2_with fail;refine(Il (w.heap.size+1) F (l.take k) _ _ _ SA.out AT.out (by omega)).mono ?_
   rintro e w1 ⟨rfl,F',h1,h2,h3⟩
   obtain⟨ba,hF,hb⟩:=INFO.out
   have hc:Chg F wr w1:=(Chg.of_below ba).trans h2 (fun _ _ e=>e)
   have B1:Below (w.heap.size+1) W0 w1:=hb.trans (hc.below (fun g _ hg=>hF g hg) (by omega))
   have F1:∀g,F' g->w.heap.size+1<=g:=fun g hg=>(h3 g hg).elim (hF g) (fun hh=>by have:=ba.size;omega)
   rw[TP.out] at h1
   have FIN:Hid _:=And.intro h1 (And.intro F1 B1)
   clear h1 h2 h3 hc B1 F1 ba hF hb INFO;go_wp2;go_roundw
   case rel=>exact⟨k+1,F',by omega,by go_num,FIN.out.1,FIN.out.2.1,FIN.out.2.2⟩
   case measure=>simp[intOf];omega
  ·have hkk:k=l.length:=by omega
   subst hkk;rw[List.take_of_length_le (Nat.le_refl _)] at hsrt
   obtain⟨kv,vv,h1,h2,h3,h4,h5,h6,h7⟩:=hsrt
   obtain⟨ka,kc,hkv⟩:=Bu h2
   obtain⟨vva,vc,hvv⟩:=Bu h3
   have c0:wr.cell? ⟨w.heap.size+1,0,none⟩=some kv:=by rw[Af h1];rfl
   have c1:wr.cell? ⟨w.heap.size+1,1,none⟩=some vv:=by rw[Af h1];rfl
   have hA:=(hb.block w.heap.size (by omega)).trans HA.out
   have e0:wr.cell? ⟨w.heap.size,0,none⟩=some (.slice none 0 0):=by rw[Af hA];rfl
   have e1:wr.cell? ⟨w.heap.size,1,none⟩=some (.slice none 0 0):=by rw[Af hA];rfl
   have f0:wr.frozen? ⟨w.heap.size,0,none⟩=false:=AH hA
   have f1:wr.frozen? ⟨w.heap.size,1,none⟩=false:=AH hA
   have hch:Chg (fun g=>g=w.heap.size) wr ((wr.setCell ⟨w.heap.size,0,none⟩ kv).setCell ⟨w.heap.size,1,none⟩ vv):=Chg.setAt (F:=fun g=>g=w.heap.size) (Chg.setAt (F:=fun g=>g=w.heap.size) (Chg.refl _ _) _ _ rfl _) _ _ rfl _
   have k2:=Ow (base:=w.heap.size) (AQ h2 hch (fun g hg e=>by have:=hF g (h6 g hg);omega)) (fun g hg=>by have:=hF g (h6 g hg);omega)
   have v2:=Ow (base:=w.heap.size) (AQ h3 hch (fun g hg e=>by have:=hF g (h7 g hg);omega)) (fun g hg=>by have:=hF g (h7 g hg);omega)
   have B2:Below w.heap.size w ((wr.setCell ⟨w.heap.size,0,none⟩ kv).setCell ⟨w.heap.size,1,none⟩ vv):=(hbw.setCell (Nat.le_refl _) _).setCell (Nat.le_refl _) _
   rw[Dc] at k2 hkv
   rw[EO] at v2 hvv
   rw[hkv] at c0 k2 h4 B2 v2
   rw[hvv] at c1 v2 h4 B2 k2
   have hA2:((wr.setCell ⟨w.heap.size,0,none⟩ (.slice ka l.length kc)).setCell ⟨w.heap.size,1,none⟩ (.slice vva l.length vc)).heap[w.heap.size]? =some (.cells #[.slice ka l.length kc, .slice vva l.length vc] 114 (0,0)):=by
    rw[heap_setCell_same _ _ _ _ _ _ (heap_setCell_same wr _ _ _ _ _ hA)];rfl
   have q0:((wr.setCell ⟨w.heap.size,0,none⟩ (.slice ka l.length kc)).setCell ⟨w.heap.size,1,none⟩ (.slice vva l.length vc)).cell? ⟨w.heap.size,0,none⟩=some (.slice ka l.length kc):=by rw[Af hA2];rfl
   have q1:((wr.setCell ⟨w.heap.size,0,none⟩ (.slice ka l.length kc)).setCell ⟨w.heap.size,1,none⟩ (.slice vva l.length vc)).cell? ⟨w.heap.size,1,none⟩=some (.slice vva l.length vc):=by rw[Af hA2];rfl
   have FIN:Hid _:=And.intro k2 (And.intro v2 (And.intro h4 B2))
   clear h1 h2 h3 h4 h5 h6 h7 hkv hvv hA hA2 hch k2 v2 B2 hF hb hbw hbs hk hv;go_wp2;refine bodyPost_ret (v:= .agg #[.slice ka l.length kc, .slice vva l.length vc]) (by simp[results,Tryz.results83,go_sem,q0,q1]) rfl ?_
   exact⟨_,_,rfl,FIN.out.1,FIN.out.2.1,FIN.out.2.2.1,FIN.out.2.2.2⟩

theorem Xm (l:PL) (i:Nat) (h:i<l.length):((Bn l).map (Value.int .i64))[i]? =some (.int .i64 (kOf l i)):=by simp[Bn,kOf,List.getD,h]
theorem Xn (l:PL) (i:Nat) (h:i<l.length):((Fd l).map (Value.int .i64))[i]? =some (.int .i64 (vOf l i)):=by simp[Fd,vOf,List.getD,h]

theorem QR (kv vv:Value) (l:PL) (w:World) (h1:Row w kv l.length ((Bn l).map (Value.int .i64))) (h2:Row w vv l.length ((Fd l).map (Value.int .i64))) (hn:l.length<=2097152) :
  Calls Tryz.prog 86 #[.agg #[kv,vv]] w fun e w' =>∃v',e= .returned v' ∧w'.ownsRow w.heap.size 63 2 v' l.length (Au l)/\Below w.heap.size w w' :=by
 obtain⟨i0,hi,hz0,hz1,hz2⟩:=info_parts Tryz.info63
 obtain⟨a,b,off,cap,rfl,hcap,hmax,ha,hk,_⟩:=h1
 obtain⟨a2,b2,off2,cap2,rfl,hcap2,hmax2,ha2,hv,_⟩:=h2
 unfold maxLen at hmax hmax2;have b0:Below w.heap.size w (w.alloc (.cells #[.slice a l.length cap, .slice a2 l.length cap2] 114)):=(Below.refl _ _).alloc (Nat.le_refl _) _
 have hs0:(w.alloc (.cells #[.slice a l.length cap, .slice a2 l.length cap2] 114)).heap.size=w.heap.size+1:=by simp
 have hB:=heap_alloc_new w (.cells #[.slice a l.length cap, .slice a2 l.length cap2] 114)
 have BB:Hid _:=And.intro b0 hB
 clear b0 hB;go_enter Tryz.func86,Tryz.ntmps86
 go_wp2;generalize hW0:w.alloc (.cells #[.slice a l.length cap, .slice a2 l.length cap2] 114)=W0 at *
 clear hW0;go_loopw [3,9] (fun out i wr=>∃k:Nat,k<=l.length/\i= .int .i64 k/\wr.ownsRow (w.heap.size+1) 63 2 out (l.take k).length (Au (l.take k))/\Below (w.heap.size+1) W0 wr)
  (fun _ i _=>l.length-(intOf i).toNat)
 case atStart=>exact⟨0,Nat.zero_le _,rfl,World.ownsRow_nil _ _ _ _,Below.refl _ _⟩
 case round=>
  obtain⟨k,hkl,rfl,hown,hb⟩:=hrel
  have hbw:Below w.heap.size w wr:=BB.out.1.trans (hb.mono (by omega))
  have hbs:=hb.size
  by_cases hlt:k<l.length
  ·have hal:=ha (by omega)
   subst hal;have hal2:=ha2 (by omega)
   subst hal2;have c0:=hk k _ (Xm l k hlt)
   have c1:=hv k _ (Xn l k hlt)
   have d0:=(hbw.cell (by exact Aa c0)).trans c0
   have d1:=(hbw.cell (by exact Aa c1)).trans c1
   have hA:=(hb.block w.heap.size (by omega)).trans BB.out.2
   have e1:wr.cell? ⟨w.heap.size,1,none⟩=some (.slice (some ⟨b2,off2,none⟩) l.length cap2):=by rw[Af hA];rfl
   have DS:Hid _:=Hn l k hlt
   have htl:(l.take k).length<=k:=List.length_take_le _ _
   generalize l.take k=D at *
   have HR:Hid _:=Bl (n:=D.length) (bytes:=16) (by omega) (by decide)
   have hbs1:w.heap.size+1<=wr.heap.size:=by omega
   clear hk hv c0 c1 hA hbw;go_wp2_with (at_builtin;refine BI wr rfl _ _ 24 rfl (w.heap.size+1) 63 i0 _ 2 16 Tryz.underlying24 hi hz0 hz1 hz2 rfl (by decide) u3 _ _ rfl hown [.int .i64 (kOf l k), .int .i64 (vOf l k)] rfl rfl (F5 _ _) HR.out.1 HR.out.2 hbs1 ?_)
   intro v1 w1 ho1 _ hb1;rw[DT] at ho1
   have hb2:=hb.trans hb1
   clear d0 d1 hown hb hb1 hbs;go_wp2;go_roundw
   case rel=>exact⟨k+1,by omega,by go_num,by rw[DS.out,List.length_append];exact ho1,hb2⟩
   case measure=>simp[intOf];omega
  ·have hkk:k=l.length:=by omega
   subst hkk;rw[List.take_of_length_le (Nat.le_refl _)] at hown
   have FIN:Hid _:=And.intro (AR hown (show w.heap.size<=w.heap.size+1 by omega)) hbw
   clear hown hbw hb;go_wp2;go_ret;exact⟨_,rfl,FIN.out.1,FIN.out.2⟩
end
section
open Go.RowKit

theorem XR {l:PL} (h:CJ l) (ms:ML):Cn l ms=(BS ms).foldl doP l:=by
 induction ms generalizing l with
 |nil=>rfl
 |cons m ms ih=>
  have hM:Bo l=true:=(EJ l).2 h
  obtain⟨o,k,v⟩:=m
  cases hq:AK o k v
  ·rw[Cn,List.foldl_cons,Qd (Or.inr hq),BS,List.filter_cons_of_neg (by simp[okM,hq])]
   exact ih h
  ·rw[Cn,List.foldl_cons,VU hM hq,BS,List.filter_cons_of_pos (by simp[okM,hq]),List.foldl_cons]
   exact ih (Nn h hq)
theorem SR {l:PL} (h:CJ l) (ms:ML) (hm:∀m∈ms,okM m=true):CJ (ms.foldl doP l):=by
 induction ms generalizing l with
 |nil=>exact h
 |cons m ms ih=>exact ih (Nn h (hm m (by simp))) (fun q hq=>hm q (by simp[hq]))
theorem Tb (l:PL) (h:Asc l) (a:Int) (ha:∀p∈l,a<=p.1/\p.1<=999) (ha2:a<=1000):(l.length:Int)<=1000-a:=by
 induction l generalizing a with
 |nil=>simp;omega
 |cons p l ih=>
  obtain⟨h1,h2⟩:=h.cons
  have hp:=ha p (by simp)
  have:=ih h2 (p.1+1) (fun q hq=>⟨by have:=h1 q hq;omega,(ha q (by simp[hq])).2⟩) (by omega)
  simp only[List.length_cons]
  omega
theorem Fz {l:PL} (h:CJ l):l.length<=1000:=by
 have:=Tb l h.1 0 (fun p hp=>(h.2 p hp).1) (by omega)
 omega
theorem Jy (l:PL) (ms:ML):(ms.foldl doP l).length<=l.length+ms.length:=by
 induction ms generalizing l with
 |nil=>simp
 |cons m ms ih=>
  have h1:=ih (doP l m)
  have h2:=Mi l m
  simp only[List.foldl_cons,List.length_cons] at *
  omega
theorem So (l:PL) (ms:ML) (k:Nat) (h:k<ms.length):(ms.take (k+1)).foldl doP l=doP ((ms.take k).foldl doP l) (mO ms k,mK ms k,mV ms k):=by
 rw[DZ ms k h,List.foldl_append];rfl

theorem DW.lt {w:World} {B:Nat} {F:Nat->Prop} {l:PL} (h:DW w B F l):B<w.heap.size:=by
 obtain⟨kv,vv,h1,_⟩:=h
 exact(Array.getElem?_eq_some_iff.1 h1).1

theorem Gu (va vm:Value) (l:PL) (ms:ML) (w:World) (h:Row w va l.length (Au l)) (hm:Row w vm ms.length (Al ms)) (hn:l.length+ms.length<=2097152) :
  Calls Tryz.prog 40 #[va,vm] w fun e w' =>∃v',e= .returned v' ∧w'.ownsRow w.heap.size 63 2 v' (Cn l ms).length (Au (Cn l ms))/\Below w.heap.size w w' :=by
 have RW:Hid (Row w va l.length (Au l)):=h
 have RM:Hid (Row w vm ms.length (Al ms)):=hm
 clear h hm
 cases hM:Bo l
 ·obtain⟨i0,hi,hz0,hz1,hz2⟩:=info_parts Tryz.info63
  have HR:Hid _:=Gj (n:=l.length) (bytes:=16) (by omega) (by decide)
  have E:Hid (Cn l ms=l):=Ro hM ms
  go_enter Tryz.func40,Tryz.ntmps40
  go_wp2_with fail;refine(GI va l _ RW.out).mono ?_
  rw[hM]
  rintro e w1 ⟨rfl,b1⟩
  have B1s:=b1.size
  have RR:Hid (Row w1 va l.length (Au l)):=RW.out.below b1
  clear hM;go_wp2_with (at_builtin;refine F7 w1 rfl _ _ 24 rfl w.heap.size 63 i0 _ 2 16 Tryz.underlying24 hi hz0 hz1 hz2 rfl (by decide) (.slice none 0 0) 0 [] rfl (World.ownsRow_nil _ _ _ _) va l.length (Au l) rfl RR.out (Cx _) (Ei _) HR.out.1 HR.out.2 B1s ?_)
  intro v' w2 ho2 _ hb2;have B2:Below w.heap.size w w2:=b1.trans hb2
  clear hb2 b1;go_wp2;go_ret;rw[E.out]
  exact⟨_,rfl,by simpa using ho2,B2⟩
 ·have hmp:CJ l:=(EJ l).1 hM
  have E:Hid (Cn l ms=(BS ms).foldl doP l):=XR hmp ms
  have HMP:Hid (CJ l):=hmp
  have hml:=Fz hmp
  have hol:=H6 ms
  have HOK:Hid (∀m∈BS ms,okM m=true):=fun m hm=>(List.mem_filter.1 hm).2
  clear hmp;go_enter Tryz.func40,Tryz.ntmps40
  go_wp2_with fail;refine(GI va l _ RW.out).mono ?_
  rw[hM]
  rintro e w1 ⟨rfl,b1⟩
  have B1:Hid (Below w.heap.size w w1):=b1
  clear hM b1;go_wp2_with fail;refine(Pl va l _ (RW.out.below B1.out) HMP.out.1 (by omega)).mono ?_
  rintro e w2 ⟨kv,vv,rfl,o1,o2,hd,b2⟩
  obtain⟨ka,kc,hkv⟩:=Bu o1
  obtain⟨vva,vc,hvv⟩:=Bu o2
  subst hkv;subst hvv;have B2:Below w.heap.size w w2:=Below.and B1.out b2
  have b3:Below w2.heap.size w2 (w2.alloc (.cells #[.slice ka l.length kc, .slice vva l.length vc] 114)):=(Below.refl _ _).alloc (Nat.le_refl _) _
  have SRT:DW (w2.alloc (.cells #[.slice ka l.length kc, .slice vva l.length vc] 114)) w2.heap.size (fun g=>g=w2.heap.size∨(Value.slice ka l.length kc).ownBlock=some g∨(Value.slice vva l.length vc).ownBlock=some g) l:=
   ⟨_,_,heap_alloc_new w2 _,by rw[Dc];exact AJ (AR o1 (Nat.zero_le _)) b3,by rw[EO];exact AJ (AR o2 (Nat.zero_le _)) b3,hd,Or.inl rfl,fun g hg=>Or.inr (Or.inl hg),fun g hg=>Or.inr (Or.inr hg)⟩
  have hF0:∀g,(g=w2.heap.size∨(Value.slice ka l.length kc).ownBlock=some g∨(Value.slice vva l.length vc).ownBlock=some g)->w.heap.size<=g/\g<(w2.alloc (.cells #[.slice ka l.length kc, .slice vva l.length vc] 114)).heap.size:=by
   have hs:=B2.size
   have hs1:=B1.out.size
   rintro g (rfl|hg|hg)
   ·exact⟨by omega,by simp⟩
   ·have:=o1.lt g hg;exact⟨by omega,by simp;omega⟩
   ·have:=o2.lt g hg;exact⟨by omega,by simp;omega⟩
  have INFO:Hid _:=And.intro SRT (And.intro hF0 (And.intro b3 B2))
  clear SRT hF0 b3 B2 b2 hd o1 o2 B1;go_wp2_with fail;obtain⟨SRT,hF0,b3,B2⟩:=INFO.out
  refine(IG vm ms _ ((RM.out.below B2).below b3) (by omega)).mono ?_
  rintro e w4 ⟨cs,rfl,oc,b4⟩
  generalize hms:BS ms=cm at *
  obtain⟨ca,cc,hcs⟩:=Bu oc
  subst hcs;have SRT4:=SRT.below b4
  have B4:Below w.heap.size w w4:=Below.and (Below.and B2 b3) b4
  have hcl:∀g,(Value.slice ca cm.length cc).ownBlock=some g->(w2.alloc (.cells #[.slice ka l.length kc, .slice vva l.length vc] 114)).heap.size<=g:=fun g hg=>(oc.lt g hg).1
  have hB2:w2.heap.size<w4.heap.size:=SRT4.lt
  have hcm:cc<=maxLen:=by
   obtain⟨_,⟨e,_⟩|⟨g,cap',cur,e,_,_,_,hc,_⟩⟩:=oc
   ·simp at e;rw[e.2.2];exact Nat.zero_le _
   ·simp at e;rw[e.2];exact hc
  have START:Hid _:=And.intro SRT4 (And.intro (fun g (hg:g=w2.heap.size∨(Value.slice ka l.length kc).ownBlock=some g∨(Value.slice vva l.length vc).ownBlock=some g)=>(hF0 g hg).1) (And.intro (fun g (hg:g=w2.heap.size∨(Value.slice ka l.length kc).ownBlock=some g∨(Value.slice vva l.length vc).ownBlock=some g) (hh:(Value.slice ca cm.length cc).ownBlock=some g)=>(show False by have h1:=(hF0 g hg).2;have h2:=hcl g hh;omega)) (And.intro (AR (base' :=0) oc (Nat.zero_le _)) B4)))
  unfold maxLen at hcm;clear SRT SRT4 hF0 b3 b4 B2 B4 oc hcl INFO RW RM hms;go_wp2;go_loopw [18] (fun i wr=>∃(k:Nat) (F:Nat->Prop),k<=cm.length/\i= .int .i64 k/\DW wr w2.heap.size F ((cm.take k).foldl doP l)/\(∀g,F g->w.heap.size<=g)/\(∀g,F g->(Value.slice ca cm.length cc).ownBlock=some g->False)/\wr.ownsRow 0 119 1 (.slice ca cm.length cc) cm.length (cm.map Cr)/\Below w.heap.size w wr)
   (fun i _=>cm.length-(intOf i).toNat)
  case atStart=>exact⟨0,_,Nat.zero_le _,rfl,START.out.1,START.out.2.1,START.out.2.2.1,START.out.2.2.2.1,START.out.2.2.2.2⟩
  case round=>
   obtain⟨k,F,hkl,rfl,hsrt,hF,hFc,hoc,hb⟩:=hrel
   clear START;by_cases hlt:k<cm.length
   ·have hex:∃g,ca=some ⟨g,0,none⟩:=by
     obtain⟨_,⟨e,e2⟩|⟨g,cap',cur,e,_⟩⟩:=hoc
     ·omega
     ·simp at e;exact⟨g,e.1⟩
    obtain⟨g,rfl⟩:=hex
    have hcell:wr.cell? ⟨g,k,none⟩=some (Cr (mO cm k,mK cm k,mV cm k)):=by
     rw[hoc.cellAt k (by omega),List.getElem?_map,List.getElem?_eq_getElem hlt,DV cm k hlt];rfl
    obtain⟨tt,xx,hx⟩:=Jk (mO cm k,mK cm k,mV cm k)
    rw[hx] at hcell
    have hmk:AK (mO cm k) (mK cm k) (mV cm k)=true:=by
     have:=HOK.out cm[k] (List.getElem_mem hlt)
     rw[DV cm k hlt] at this
     exact this
    have FSUC:Hid _:=So l cm k hlt
    have hfl:=Jy l (cm.take k)
    have htl:(cm.take k).length<=k:=List.length_take_le _ _
    have MP:Hid _:=SR HMP.out (cm.take k) (fun m hm=>HOK.out m (List.mem_of_mem_take hm))
    generalize (cm.take k).foldl doP l=A at *
    have hA:=Fz MP.out
    have TU:=Wd w2.heap.size F A (mO cm k) (mK cm k) (mV cm k) wr hsrt MP.out hmk (by omega)
    rw[hx] at TU
    have TU' :Hid _:=(fun (_:Nat)=>TU)
    have INFO:Hid _:=And.intro hF (And.intro hFc (And.intro hoc hb))
    clear TU hF hFc hoc hb hsrt hmk hx;go_wp2_with fail;refine(TU'.out 0).mono ?_
    rintro e w5 ⟨rfl,F',h1,h2,h3⟩
    obtain⟨hF,hFc,hoc,hb⟩:=INFO.out
    have hwlt:∀g',(Value.slice (some ⟨g,0,none⟩) cm.length cc).ownBlock=some g' ->g' < wr.heap.size:=fun g' hg' =>(Eg hoc hg').1
    have hbs:=hb.size
    have FIN:Hid _:=And.intro h1 (And.intro (show ∀g',F' g' ->w.heap.size<=g' from fun g' hg' =>(h3 g' hg').elim (hF g') (fun hh=>by omega)) (And.intro (show ∀g',F' g' ->(Value.slice (some ⟨g,0,none⟩) cm.length cc).ownBlock=some g' ->False from fun g' hg' hh=>(h3 g' hg').elim (fun hh2=>hFc g' hh2 hh) (fun hh2=>by have:=hwlt g' hh;omega))
     (And.intro (AQ hoc h2 (fun g' hg' hh=>hFc g' hh hg')) (hb.trans (h2.below (fun g' _ hg' =>hF g' hg') hbs)))))
    clear h1 h2 h3 hF hFc hoc hb hwlt hbs INFO TU';go_wp2;go_roundw
    case rel=>exact⟨k+1,F',by omega,by go_num,by rw[FSUC.out];exact FIN.out.1,FIN.out.2.1,FIN.out.2.2.1,FIN.out.2.2.2.1,FIN.out.2.2.2.2⟩
    case measure=>simp[intOf];omega
   ·have hkk:k=cm.length:=by omega
    subst hkk;rw[List.take_of_length_le (Nat.le_refl _)] at hsrt
    have hfl:=Jy l cm
    rw[←E.out] at hsrt hfl
    obtain⟨kv',vv',h1,h2,h3,h4,h5,h6,h7⟩:=hsrt
    rw[Dc] at h2
    rw[EO] at h3
    have R1:=Row.of_owns h2
    have R2:=Row.of_owns h3
    obtain⟨ka',kc',hkv'⟩:=Bu h2
    obtain⟨va',vc',hvv'⟩:=Bu h3
    have c0:wr.cell? ⟨w2.heap.size,0,none⟩=some kv' :=by rw[Af h1];rfl
    have c1:wr.cell? ⟨w2.heap.size,1,none⟩=some vv' :=by rw[Af h1];rfl
    rw[hkv'] at c0 R1
    rw[hvv'] at c1 R2
    have PO:Hid _:=(fun (_:Nat)=>QR _ _ (Cn l ms) wr R1 R2 (by omega))
    have hbh:Hid _:=hb
    clear h1 h2 h3 h4 h5 h6 h7 hkv' hvv' hF hFc hoc hb R1 R2;go_wp2_with fail;refine(PO.out 0).mono ?_
    rintro e w6 ⟨v6,rfl,o6,b6⟩
    go_wp2;go_ret;exact⟨_,rfl,AR o6 hbh.out.size,Below.and hbh.out b6⟩
end
section
open Go.RowKit

theorem UT (l:PL) (ms:ML) (k:Nat) (h:k<ms.length):Cn l (ms.take (k+1))=doL (Cn l (ms.take k)) (mO ms k,mK ms k,mV ms k):=by
 rw[DZ ms k h,Cn,List.foldl_append];rfl

theorem LQ (va vm:Value) (l:PL) (ms:ML) (w:World) (h:Row w va l.length (Au l)) (hm:Row w vm ms.length (Al ms)) (hn:l.length+ms.length<=2097152) :
  Calls Tryz.prog 59 #[va,vm] w fun e w' =>∃v',e= .returned v' ∧w'.ownsRow w.heap.size 63 2 v' (Cn l ms).length (Au (Cn l ms))/\Below w.heap.size w w' :=by
 obtain⟨i0,hi,hz0,hz1,hz2⟩:=info_parts Tryz.info63
 have RW:Hid (Row w va l.length (Au l)):=h
 have HR:Hid _:=Gj (n:=l.length) (bytes:=16) (by omega) (by decide)
 have Hb:Hid (w.heap.size<=(w.alloc (.cells #[] 63)).heap.size):=by show _<=_;simp
 obtain⟨a,b,off,cap,rfl,hcap,hmax,ha,ho,hk,hv⟩:=hm.msgs
 unfold maxLen at hmax;clear h;go_enter Tryz.func59,Tryz.ntmps59
 go_wp2_with (at_builtin;refine F7 (w.alloc (.cells #[] 63)) rfl _ _ 24 rfl w.heap.size 63 i0 _ 2 16 Tryz.underlying24 hi hz0 hz1 hz2 rfl (by decide) (.slice (some ⟨w.heap.size,0,none⟩) 0 0) 0 [] rfl (Ec w w.heap.size 63 2 (Nat.le_refl _)) va l.length (Au l) rfl (RW.out.below ((Below.refl _ _).alloc (Nat.le_refl _) _)) (Cx _) (Ei _) HR.out.1 HR.out.2 Hb.out ?_)
 intro v0 w0 ho0 _ hb0;have B0:Below w.heap.size w w0:=((Below.refl _ _).alloc (Nat.le_refl _) _).trans hb0
 clear hb0;go_wp2;go_loopw [5,6] (fun out i wr=>∃k:Nat,k<=ms.length/\i= .int .i64 k/\wr.ownsRow w.heap.size 63 2 out (Cn l (ms.take k)).length (Au (Cn l (ms.take k)))/\Below w.heap.size w wr)
  (fun _ i _=>ms.length-(intOf i).toNat)
 case atStart=>exact⟨0,Nat.zero_le _,rfl,ho0,B0⟩
 case round=>
  obtain⟨k,hkl,rfl,hown,hb⟩:=hrel
  by_cases hlt:k<ms.length
  ·have hal:=ha (by omega)
   subst hal;have d0:=(hb.cell (by exact Aa (ho k hlt))).trans (ho k hlt)
   have d1:=(hb.cell (by exact Aa (hk k hlt))).trans (hk k hlt)
   have d2:=(hb.cell (by exact Aa (hv k hlt))).trans (hv k hlt)
   have DS:Hid _:=UT l ms k hlt
   have hal:=Fy l (ms.take k)
   have htl:(ms.take k).length<=k:=List.length_take_le _ _
   generalize hA:Cn l (ms.take k)=A at *
   clear hA ho hk hv ho0 B0;have OW:Hid _:=hown
   have RA:Hid (Row wr u5 A.length (Au A)):=Row.of_owns hown
   clear hown;go_wp2_with fail;refine(Nv u5 A _ _ _ wr RA.out (by omega)).mono ?_
   rintro e w1 ⟨v1,rfl,o1,b1⟩
   go_wp2;go_roundw
   case rel=>exact⟨k+1,by omega,by go_num,by rw[DS.out];exact AR o1 hb.size,hb.trans (b1.mono hb.size)⟩
   case measure=>simp[intOf];omega
  ·go_wp2;go_ret;have hkk:k=ms.length:=by omega
   subst hkk;rw[List.take_of_length_le (Nat.le_refl _)] at hown
   exact⟨_,rfl,hown,hb⟩
end
section
open Go.RowKit

def Zh (T:Tr) (k:Int):ML:=if okT T=true then Oi 7 T k else []
def Zi (T:Tr) (k:Int):Int × Bool:=if okT T=true then AE (Cn (Rq 7 T k).pairs (Oi 7 T k)) k else (0,false)
end
section
open Go.RowKit

def Zk (m:Nat) (T:Tr) (j:Nat):PL:=T.pairs++((T.kids.take j).map (ID m)).flatten
def FE (T:Tr):PL:=if okT T=true then ID 7 T else []
theorem Eb (T:Tr):CJ (FE T):=by
 unfold FE;split
 ·exact(Iy (Gd (by assumption))).1
 ·exact⟨by simp[Asc,Bn],fun p hp=>by simp at hp⟩
theorem Ql (T:Tr):(FE T).length<=1000:=(Eb T).length
def Zc (T:Tr) (lo hi:Int):PL:=Yu (FE T) lo hi
theorem Qs {P:Program} {ops:Array Oper} {rest:List Oper} {o:Oper} {a:Act} {Q:Exit->Act->World->Prop} (W:World) (B:Nat) (hB:W.heap.size=B) (hgd:o.guard=none) (s x:Operand) (t:TypeId)
  (ho:o.op= .call { callee:= .builtin .append,args:= #[s,x],argTypes:= #[t,t] })
  (base:Nat) (e:TypeId) (i:TypeInfo) (z:Value) (size bytes:Nat) (ht:P.underlying t=some (.slice e)) (hi:P.info? e=some i) (hz:i.zero=some z)
  (hsize:i.size=size) (hby:i.bytes=bytes) (hzs:z.cells.size=size) (hsz:0<size)
  (v:Value) (n:Nat) (xs:List Value) (hs:a.eval s=v) (hown:W.ownsRow base e size v n xs)
  (news:List Value) (hx:a.eval x= .slice (some ⟨B,0,none⟩) 1 1) (hl:news.length=size) (h1:∀u∈news,u.oneCell' =true)
  (h63:n+1<=maxLen) (hbytes:(n+1)*bytes<=140737488355328) (hbase:base<=W.heap.size)
  (h:∀v' w',w'.ownsRow base e size v' (n+1) (xs++news)->Chg (fun g=>v.ownBlock=some g) W w' ->Below base W w' ->(∀g,v'.ownBlock=some g->v.ownBlock=some g∨g=B+1)->wpList P ops Q rest (a.put o.dst v') w') :
  wpList P ops Q (o::rest) a (W.alloc (.cells news.toArray e)):=by
 subst hB;refine wpList_append_lies _ hgd s x t ho base e i z size bytes ht hi hz hsize hby hzs hsz v n xs hs (hown.alloc _) ⟨W.heap.size,0,none⟩ 1 1 news hx (by omega) ?_ h1 (by decide) h63 hbytes (by simp;omega) (W.heap.size+1) (by simp) ?_
 ·intro j u hj;rw[Go.WideShapes.add_plain,Nat.zero_add,Af (heap_alloc_new W _)]
  simpa using hj
 ·intro g cap w' h2 h3 h4 _;have hc:Chg (fun g=>v.ownBlock=some g) W w' :=((Chg.refl _ _).alloc _).trans (Ee h3) (fun _ _ e=>e)
  refine h _ w' h2 hc (Hk hown hc hbase) (fun g' hg' => ?_)
  have:g=g' :=by simpa[Value.ownBlock] using hg'
  subst this;exact h4
end
section
open Go.RowKit

def Am (w:World) (B:Nat) (A:Array Value):Prop:=w.heap[B]? =some (.cells A 58 (0,0))
theorem Am.start (w:World) (A:Array Value):Am (w.alloc (.cells A 58)) w.heap.size A:=heap_alloc_new w _
theorem Am.step {u w' :World} {B N:Nat} {A:Array Value} (h:Am u B A) (hb:Below N u w') (hN:B<N):Am w' B A:=(hb.block B hN).trans h
theorem Am.lt {u:World} {B:Nat} {A:Array Value} (h:Am u B A):B<u.heap.size:=(Array.getElem?_eq_some_iff.1 h).1
theorem Am.cells {u:World} {B:Nat} {A:Array Value} (h:Am u B A):∀j,u.cell? ⟨B,j,none⟩=A[j]? :=fun j=>cell_of_row u B j A 58 (0,0) h
theorem Am.two {u:World} {B:Nat} {x0 x1:Value} (h:Am u B #[x0,x1]):u.cell? ⟨B,0,none⟩=some x0/\u.cell? ⟨B,1,none⟩=some x1:=⟨by rw[h.cells];rfl,by rw[h.cells];rfl⟩
theorem Am.free {u:World} {B:Nat} {x0 x1:Value} (h:Am u B #[x0,x1]):u.frozen? ⟨B,0,none⟩=false/\u.frozen? ⟨B,1,none⟩=false:=⟨frozen_of_row u B 0 _ 58 h,frozen_of_row u B 1 _ 58 h⟩
theorem Am.chg {w w' :World} {L:Nat} {A:Array Value} {p:Nat->Prop} (h:Am w L A) (hc:Chg p w w') (hp:¬p L):Am w' L A:=
 (hc.block L (Array.getElem?_eq_some_iff.1 h).1 hp).trans h
theorem Am.alloc {w:World} {L:Nat} {A:Array Value} (h:Am w L A) (o:Obj):Am (w.alloc o) L A:=h.step ((Below.refl _ _).alloc (Nat.le_refl _) o) h.lt
theorem RQ (w:World) (A:Array Value):Below w.heap.size w (w.alloc (.cells A 58)):=(Below.refl _ _).alloc (Nat.le_refl _) _

theorem VW (vt vc:Value) (cs:List Int) (x0:Int) (w:World) (hc:Row w vc cs.length (Ab cs)) :
  Calls Tryz.prog 100 #[.agg #[vt,vc], .int .i64 x0] w fun e w' =>e= .returned (.int .i64 (AN cs x0:Nat))/\Below w.heap.size w w' :=by
 obtain⟨a2,b2,off2,q2,rfl,hcap2,hmax2,ha2,cc⟩:=hc.ints
 unfold maxLen at hmax2;clear hc;have PK:Hid (∀n,n<=cs.length->(∀i,i<n->iAt cs i<=x0)->(n<cs.length->¬iAt cs n<=x0)->AN cs x0=n):=fun n=>QC
 generalize AN cs x0=R at *
 generalize hn2:cs.length=n2 at *
 have B0:Hid _:=RQ w #[vt, .slice a2 n2 q2]
 have S0:Hid (Am _ w.heap.size _):=Am.start w #[vt, .slice a2 n2 q2]
 go_enter Tryz.func100,Tryz.ntmps100
 go_wp2;go_loopw [5] (fun i wr=>∃k' :Nat,k' <=n2/\i= .int .i64 k' ∧wr=w.alloc (.cells #[vt, .slice a2 n2 q2] 58)/\Hid (∀i,i<k' ->iAt cs i<=x0))
  (fun i _=>n2-(intOf i).toNat)
 case atStart=>exact⟨0,Nat.zero_le _,rfl,rfl,fun i hi=>absurd hi (Nat.not_lt_zero _)⟩
 case round=>
  obtain⟨k',hkl,rfl,hwr,ALL⟩:=hrel
  have k0:=S0.out.two
  rw[←hwr] at k0
  obtain⟨k0,k1⟩:=k0
  by_cases hlt:k' < n2
  ·have hal:=ha2 (by omega)
   subst hal;have d0:=(B0.out.cell (by exact Aa (cc k' hlt))).trans (cc k' hlt)
   rw[←hwr] at d0
   have BW:Hid (Below w.heap.size w wr):=by rw[hwr];exact B0.out
   have WR:=hid (hwr)
   clear cc ha2 hwr S0 B0;by_cases hq:iAt cs k' <=x0
   ·have YS:=hid (hq)
    go_wp2;go_roundw
    case rel=>exact⟨k' +1,by omega,by go_num,WR.out,fun i hi=>if h:i<k' then ALL.out i h else by rw[show i=k' by omega];exact YS.out⟩
    case measure=>simp[intOf];omega
   ·have E:Hid (R=k'):=PK.out k' (by omega) ALL.out (fun _=>by omega)
    go_wp2;go_ret;exact⟨Bq (by rw[E.out]),BW.out⟩
  ·have E:Hid (R=k'):=PK.out k' (by omega) ALL.out (fun h=>absurd h hlt)
   have BW:Hid (Below w.heap.size w wr):=by rw[hwr];exact B0.out
   clear cc ha2 hwr S0 B0;go_wp2;go_ret;exact⟨Bq (by rw[E.out]),BW.out⟩

theorem Ie (a1:Option Addr) (n1 q1:Nat) (vc vb:Value) (cs:List Int) (buf:ML) (i:Nat) (w:World) (hc:Row w vc cs.length (Ab cs)) (hb:Row w vb buf.length (Al buf)) (hn:buf.length<=2097152) :
  Calls Tryz.prog 62 #[.agg #[.slice a1 n1 q1,vc],vb, .int .i64 (i:Nat)] w fun e w' =>∃v1 v2,e= .returned (.tuple #[v1,v2])/\w'.ownsRow w.heap.size 31 3 v1 (Ar cs i buf).length (Al (Ar cs i buf))/\w'.ownsRow w.heap.size 31 3 v2 (AZ cs i buf).length (Al (AZ cs i buf))/\Below w.heap.size w w' :=by
 have HC:Hid (∀(x0:Int) (w1:World),Below w.heap.size w w1->Calls Tryz.prog 100 #[.agg #[.slice a1 n1 q1,vc], .int .i64 x0] w1 fun e w' =>e= .returned (.int .i64 (AN cs x0:Nat))/\Below w1.heap.size w1 w'):=
  fun x0 w1 h=>VW _ vc cs x0 w1 (hc.below h)
 obtain⟨a2,b2,off2,q2,rfl,hcap2,hmax2,ha2,cc⟩:=hc.ints
 obtain⟨a4,b4,off4,q4,rfl,hcap4,hmax4,ha4,e0,e1,e2⟩:=hb.msgs
 obtain⟨i0,hi0,hz0,hz1,hz2⟩:=info_parts Tryz.info31
 unfold maxLen at hmax2 hmax4;clear hc hb cc ha2;have MS:=hid (fun j (hj:j<buf.length)=>Lz cs i buf j hj)
 have RS:Hid (∀j,j<buf.length->AZ cs i (buf.take (j+1))=if AN cs (mK buf j)=i then AZ cs i (buf.take j) else AZ cs i (buf.take j)++[(mO buf j,mK buf j,mV buf j)]):=fun j hj=>My cs i buf j hj
 have MF:Hid (Ar cs i (buf.take buf.length)=Ar cs i buf):=by show _=_;rw[List.take_of_length_le (Nat.le_refl _)]
 have RF:Hid (AZ cs i (buf.take buf.length)=AZ cs i buf):=by show _=_;rw[List.take_of_length_le (Nat.le_refl _)]
 have ML1:Hid (∀j,(Ar cs i (buf.take j)).length<=2097152):=fun j=>Nat.le_trans (Cy _ _ _) (Nat.le_trans (List.length_take_le' _ _) hn)
 have RL1:Hid (∀j,(AZ cs i (buf.take j)).length<=2097152):=fun j=>Nat.le_trans (JY _ _ _) (Nat.le_trans (List.length_take_le' _ _) hn)
 have M0:Hid (Ar cs i (buf.take 0)=[]):=rfl
 have R0:Hid (AZ cs i (buf.take 0)=[]):=rfl
 generalize Ar cs i buf=MM at *
 generalize AZ cs i buf=RR at *
 generalize hfm:(fun j=>Ar cs i (buf.take j))=fm at *
 generalize hfr:(fun j=>AZ cs i (buf.take j))=fr at *
 have hfm' :∀j,Ar cs i (buf.take j)=fm j:=fun j=>by rw[←hfm]
 have hfr' :∀j,AZ cs i (buf.take j)=fr j:=fun j=>by rw[←hfr]
 simp only[hfm',hfr'] at MS RS MF RF ML1 RL1 M0 R0
 clear hfm hfm' hfr hfr';generalize cs.length=n2 at *
 generalize hn4:buf.length=n4 at *
 have E1:Hid ((((w.alloc (.cells #[.slice a1 n1 q1, .slice a2 n2 q2] 58)).alloc (.cells #[] 31)).alloc (.cells #[] 31)).ownsRow (w.heap.size+1) 31 3 (.slice (some ⟨w.heap.size+1,0,none⟩) 0 0) 0 []):=by
  have:=Ec (w.alloc (.cells #[.slice a1 n1 q1, .slice a2 n2 q2] 58)) (w.heap.size+1) 31 3 (by simp)
  rw[World.size_alloc] at this
  exact this.alloc _
 have E2:Hid ((((w.alloc (.cells #[.slice a1 n1 q1, .slice a2 n2 q2] 58)).alloc (.cells #[] 31)).alloc (.cells #[] 31)).ownsRow (w.heap.size+1) 31 3 (.slice (some ⟨w.heap.size+1+1,0,none⟩) 0 0) 0 []):=by
  have:=Ec ((w.alloc (.cells #[.slice a1 n1 q1, .slice a2 n2 q2] 58)).alloc (.cells #[] 31)) (w.heap.size+1) 31 3 (by simp)
  rw[World.size_alloc,World.size_alloc] at this
  exact this
 have B0:Hid (Below w.heap.size w (((w.alloc (.cells #[.slice a1 n1 q1, .slice a2 n2 q2] 58)).alloc (.cells #[] 31)).alloc (.cells #[] 31))):=(((Below.refl _ _).alloc (Nat.le_refl _) _).alloc (by simp) _).alloc (by simp;omega) _
 have S0:Hid (Am (((w.alloc (.cells #[.slice a1 n1 q1, .slice a2 n2 q2] 58)).alloc (.cells #[] 31)).alloc (.cells #[] 31)) w.heap.size #[.slice a1 n1 q1, .slice a2 n2 q2]):=((Am.start w _).alloc _).alloc _
 have Z0:Hid (w.heap.size+1+1+1<=(((w.alloc (.cells #[.slice a1 n1 q1, .slice a2 n2 q2] 58)).alloc (.cells #[] 31)).alloc (.cells #[] 31)).heap.size):=by
  show _<=_
  simp
 go_enter Tryz.func62,Tryz.ntmps62
 go_wp2;go_loopw [8,9,10] (fun m r i wr=>∃j:Nat,j<=n4/\i= .int .i64 j/\Hid (wr.ownsRow (w.heap.size+1) 31 3 m (fm j).length (Al (fm j)))/\Hid (wr.ownsRow (w.heap.size+1) 31 3 r (fr j).length (Al (fr j)))/\Hid (∀g,m.ownBlock=some g->¬r.ownBlock=some g)/\Hid (Am wr w.heap.size #[.slice a1 n1 q1, .slice a2 n2 q2])/\Hid (Below w.heap.size w wr)/\Hid (w.heap.size+1<=wr.heap.size))
  (fun _ _ i _=>n4-(intOf i).toNat)
 case atStart=>exact⟨0,Nat.zero_le _,rfl,by rw[M0.out];exact E1,by rw[R0.out];exact E2,fun g h1 h2=>by simp[Value.ownBlock] at h1 h2;omega,S0,B0,by have:=Z0.out;show _<=_;omega⟩
 case round=>
  obtain⟨j,hj,rfl,MN,RN,DN,SN,BN,ZN⟩:=hrel
  clear E1 E2 B0 S0 Z0;by_cases hlt:j<n4
  ·have hal:=ha4 (by omega)
   subst hal;have t0:=Ac BN.out (Aa (e0 j hlt)) (e0 j hlt)
   have t1:=Ac BN.out (Aa (e1 j hlt)) (e1 j hlt)
   have t2:=Ac BN.out (Aa (e2 j hlt)) (e2 j hlt)
   have MS1:Hid _:=MS.out j hlt
   have RS1:Hid _:=RS.out j hlt
   have HM:Hid _:=Bl (n:=(fm j).length) (bytes:=24) (Nat.le_trans (ML1.out j) (by decide)) (by decide)
   have HR:Hid _:=Bl (n:=(fr j).length) (bytes:=24) (Nat.le_trans (RL1.out j) (by decide)) (by decide)
   have H1:Hid _:=Kr (mO buf j) (mK buf j) (mV buf j)
   have HC1:Hid _:=HC.out (mK buf j)
   obtain⟨c0,c1⟩:=SN.out.two
   clear e0 e1 e2 ha4 HC MS RS;generalize mO buf j=x0 at *
   generalize mK buf j=x1 at *
   generalize mV buf j=x2 at *
   generalize AN cs x1=P at *
   have KEEP:Hid (∀w',Below wr.heap.size wr w' ->w'.cell? ⟨w.heap.size,0,none⟩=some (.slice a1 n1 q1)/\w'.cell? ⟨w.heap.size,1,none⟩=some (.slice a2 n2 q2)/\w'.cell? ⟨b4,off4+j*3,none⟩=some (.int .i64 x0)/\w'.cell? ⟨b4,off4+j*3+1,none⟩=some (.int .i64 x1)/\w'.cell? ⟨b4,off4+j*3+2,none⟩=some (.int .i64 x2)/\Hid (Below wr.heap.size wr w')):=
    fun w' hb=>⟨Ac hb (Aa c0) c0,Ac hb (Aa c1) c1,Ac hb (Aa t0) t0,Ac hb (Aa t1) t1,Ac hb (Aa t2) t2,hb⟩
   have S1:=KEEP.out wr.drew (Below.refl _ _).drew
   have T1:=KEEP.out wr (Below.refl _ _)
   clear c0 c1 t0 t1 t2;go_wp2_with fail;go_region_held3 (fun w' =>w'.cell? ⟨w.heap.size,0,none⟩=some (.slice a1 n1 q1)/\w'.cell? ⟨w.heap.size,1,none⟩=some (.slice a2 n2 q2)/\w'.cell? ⟨b4,off4+j*3,none⟩=some (.int .i64 x0)/\w'.cell? ⟨b4,off4+j*3+1,none⟩=some (.int .i64 x1)/\w'.cell? ⟨b4,off4+j*3+2,none⟩=some (.int .i64 x2)/\Hid (Below wr.heap.size wr w')) (assumption)
    (first
    |(go_at_call 100;refine(HC1.out _ (BN.out.trans (S1.2.2.2.2.2.out.mono BN.out.size))).mono ?_;rintro e w2 ⟨rfl,hb2⟩;have S2:=KEEP.out w2 (S1.2.2.2.2.2.out.trans (hb2.mono S1.2.2.2.2.2.out.size));clear hb2))
   clear S1 T1 HC1;obtain⟨g0,g1,g2,g3,g4,BB⟩:=S2
   have B2:=hid (BN.out.trans (BB.out.mono BN.out.size))
   have M2:=AJ MN.out BB.out
   have R2:=AJ RN.out BB.out
   have S2:=hid (SN.out.step BB.out (by have:=ZN.out;omega))
   have hz2' :w.heap.size+1<=w2.heap.size:=Nat.le_trans ZN.out BB.out.size
   have LM:=hid (fun g (hg:Value.ownBlock u8=some g)=>(M2.lt g hg).2)
   have LR:=hid (fun g (hg:Value.ownBlock u9=some g)=>(R2.lt g hg).2)
   have LM' :=hid (fun g (hg:Value.ownBlock u8=some g)=>(M2.lt g hg).1)
   have LR' :=hid (fun g (hg:Value.ownBlock u9=some g)=>(R2.lt g hg).1)
   clear MN RN BN SN BB KEEP ZN;by_cases hq:P=i
   ·have DM:=hid (MS1.out.trans (if_pos hq))
    have DR:=hid (RS1.out.trans (if_pos hq))
    have R2' :Hid _:=R2
    clear MS1 RS1 R2;subst hq;have e4:((P:Int)==(P:Int))=true:=by simp
    go_wp2_with (at_builtin;refine Qs w2 w2.heap.size rfl rfl _ _ 27 rfl (w.heap.size+1) 31 i0 _ 3 24 Tryz.underlying27 hi0 hz0 hz1 hz2 rfl (by decide) u8 _ _ rfl M2 [.int .i64 x0, .int .i64 x1, .int .i64 x2] rfl rfl H1.out HM.out.1 HM.out.2 hz2' ?_)
    intro v5 w5 o5 c5 b5 l5;have FIN:Hid _:=And.intro o5 (And.intro (AQ R2'.out c5 (fun g hg h=>DN.out g h hg)) (And.intro (show ∀g,v5.ownBlock=some g->¬Value.ownBlock u9=some g from fun g hg h9=>by
     rcases l5 g hg with h|h
     ·exact DN.out g h h9
     ·have:=LR.out g h9;omega) (And.intro (S2.out.chg c5 (fun h=>by have:=LM'.out _ h;omega)) (And.intro (B2.out.trans (b5.mono (Nat.le_succ _))) (Nat.le_trans hz2' b5.size)))))
    clear o5 b5 c5 l5 M2 g0 g1 g2 g3 g4;go_wp2;go_roundw
    case rel=>exact⟨j+1,by omega,by go_num,by rw[DM.out,Cc,List.length_append];exact FIN.out.1,by rw[DR.out];exact FIN.out.2.1,FIN.out.2.2.1,FIN.out.2.2.2.1,FIN.out.2.2.2.2.1,FIN.out.2.2.2.2.2⟩
    case measure=>simp[intOf];omega
   ·have DM:=hid (MS1.out.trans (if_neg hq))
    have DR:=hid (RS1.out.trans (if_neg hq))
    have M2' :Hid _:=M2
    clear MS1 RS1 M2;have e4:((P:Int)==(i:Int))=false:=by rw[beq_eq_false_iff_ne];omega
    go_wp2_with (at_builtin;refine Qs w2 w2.heap.size rfl rfl _ _ 27 rfl (w.heap.size+1) 31 i0 _ 3 24 Tryz.underlying27 hi0 hz0 hz1 hz2 rfl (by decide) u9 _ _ rfl R2 [.int .i64 x0, .int .i64 x1, .int .i64 x2] rfl rfl H1.out HR.out.1 HR.out.2 hz2' ?_)
    intro v5 w5 o5 c5 b5 l5;have FIN:Hid _:=And.intro o5 (And.intro (AQ M2'.out c5 (fun g hg h=>DN.out g hg h)) (And.intro (show ∀g,Value.ownBlock u8=some g->¬v5.ownBlock=some g from fun g h8 hg=>by
     rcases l5 g hg with h|h
     ·exact DN.out g h8 h
     ·have:=LM.out g h8;omega) (And.intro (S2.out.chg c5 (fun h=>by have:=LR'.out _ h;omega)) (And.intro (B2.out.trans (b5.mono (Nat.le_succ _))) (Nat.le_trans hz2' b5.size)))))
    clear o5 b5 c5 l5 R2 g0 g1 g2 g3 g4;go_wp2;go_roundw
    case rel=>exact⟨j+1,by omega,by go_num,by rw[DM.out];exact FIN.out.2.1,by rw[DR.out,Cc,List.length_append];exact FIN.out.1,FIN.out.2.2.1,FIN.out.2.2.2.1,FIN.out.2.2.2.2.1,FIN.out.2.2.2.2.2⟩
    case measure=>simp[intOf];omega
  ·have hjj:j=n4:=by omega
   subst hjj;clear e0 e1 e2 ha4;rw[MF.out] at MN
   rw[RF.out] at RN
   go_wp2;go_ret2
   exact⟨_,_,rfl,AR MN.out (Nat.le_succ _),AR RN.out (Nat.le_succ _),BN.out⟩
end
end Go.Proofs.YtnakaabnjelffaaGreat
