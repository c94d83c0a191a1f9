/-
  The program's sorted map made of a list of pairs, and told as one.
  The contracts of the program's MapAll and MapDo.
  The contract of the model's MapAll.
  Contracts of chapter 3's Pending and TreeGet, of the model and of the program.
  Contracts of the model's TreeMap and TreeRange.
-/
import Derived.Test.YtebglpllkjgjbaaGreatOfBuild10
import Derived.Test.YtebglpllkjgjbaaGreatOfBuild9
import Derived.Deep.LoopGhost
import Derived.Deep.RegionWith
import Derived.Test.YtebglpllkjgjbaaGreatOfBuild7
namespace Go.Proofs.YtebglpllkjgjbaaGreat
set_option maxRecDepth 100000
set_option maxHeartbeats 8000000
section
open Go.RowKit

theorem NZ {w:World} {base e size n:Nat} {v:Value} {xs:List Value} (h:w.ownsRow 0 e size v n xs) (hb:∀g,v.ownBlock=some g->base<=g):w.ownsRow base e size v n xs:=by
 obtain⟨hl,h|⟨g,cap,cur,rfl,hg,hh,hn,hcap,hsz,htake⟩⟩:=h
 ·exact⟨hl, .inl h⟩
 ·exact⟨hl, .inr ⟨g,cap,cur,rfl,hb g rfl,hh,hn,hcap,hsz,htake⟩⟩

theorem PQ (va:Value) (l:PL) (w:World) (h:Row w va l.length (Af l)) (hasc:Asc l) (hn:l.length<=1048576) :
  Calls Tryz.prog 89 #[va] w fun e w' =>∃kv vv,e= .returned (.agg #[kv,vv])/\w'.ownsRow w.heap.size 3 1 kv l.length ((Bo l).map (Value.int .i64))/\w'.ownsRow w.heap.size 3 1 vv l.length ((Fg l).map (Value.int .i64))∧
   (∀g,kv.ownBlock=some g->vv.ownBlock≠some g)/\Below w.heap.size w w' :=by
 obtain⟨a,b,off,cap,rfl,hcap,hmax,ha,hk,hv⟩:=h.pairs
 unfold maxLen at hmax;have ASC:Hid (Asc l):=hasc
 clear hasc h;have hs0:((w.alloc (.cells #[.slice none 0 0, .slice none 0 0] 121)).alloc (.cells #[.slice none 0 0, .slice none 0 0] 121)).heap.size=w.heap.size+1+1:=by simp
 have hs1:(w.alloc (.cells #[.slice none 0 0, .slice none 0 0] 121)).heap.size=w.heap.size+1:=by simp
 have hB0:((w.alloc (.cells #[.slice none 0 0, .slice none 0 0] 121)).alloc (.cells #[.slice none 0 0, .slice none 0 0] 121)).heap[w.heap.size+1]? =some (.cells #[.slice none 0 0, .slice none 0 0] 121 (0,0)):=by
  rw[←hs1];exact heap_alloc_new _ _
 have hA0:((w.alloc (.cells #[.slice none 0 0, .slice none 0 0] 121)).alloc (.cells #[.slice none 0 0, .slice none 0 0] 121)).heap[w.heap.size]? =some (.cells #[.slice none 0 0, .slice none 0 0] 121 (0,0)):=by
  rw[Below.heap_alloc _ _ _ (by omega)];exact heap_alloc_new _ _
 have START:Hid (DY ((w.alloc (.cells #[.slice none 0 0, .slice none 0 0] 121)).alloc (.cells #[.slice none 0 0, .slice none 0 0] 121)) (w.heap.size+1) (fun g=>g=w.heap.size+1) []):=
  ⟨.slice none 0 0, .slice none 0 0,hB0,World.ownsRow_nil _ _ _ _,World.ownsRow_nil _ _ _ _,fun g hg=>by simp[Value.ownBlock] at hg,rfl,fun g hg=>by simp[Value.ownBlock] at hg,fun g hg=>by simp[Value.ownBlock] at hg⟩
 have b0:Below w.heap.size w ((w.alloc (.cells #[.slice none 0 0, .slice none 0 0] 121)).alloc (.cells #[.slice none 0 0, .slice none 0 0] 121)):=((Below.refl _ _).alloc (Nat.le_refl _) _).alloc (by simp) _
 have BB:Hid _:=b0
 have HA:Hid _:=hA0
 clear b0 hA0 hB0;go_enter Tryz.func89,Tryz.ntmps89
 go_wp2;generalize hW0:(w.alloc (.cells #[.slice none 0 0, .slice none 0 0] 121)).alloc (.cells #[.slice none 0 0, .slice none 0 0] 121)=W0 at *
 clear hW0;go_loopw [8] (fun i wr=>∃(k:Nat) (F:Nat->Prop),k<=l.length/\i= .int .i64 k/\DY wr (w.heap.size+1) F (l.take k)/\(∀g,F g->w.heap.size+1<=g)/\Below (w.heap.size+1) W0 wr)
  (fun i _=>l.length-(intOf i).toNat)
 case atStart=>exact⟨0,_,Nat.zero_le _,rfl,START.out,fun g hg=>by omega,Below.refl _ _⟩
 case round=>
  obtain⟨k,F,hkl,rfl,hsrt,hF,hb⟩:=hrel
  have hbw:Below w.heap.size w wr:=BB.out.trans (hb.mono (by omega))
  have hbs:=hb.size
  by_cases hlt:k<l.length
  ·have hal:=ha (by omega)
   subst hal;have d0:=(hbw.cell (by exact Aa (hk k hlt))).trans (hk k hlt)
   have d1:=(hbw.cell (by exact Aa (hv k hlt))).trans (hv k hlt)
   have TP:Hid _:=Xa ASC.out k hlt
   have htl:(l.take k).length<=k:=List.length_take_le _ _
   have AT:Hid _:=Ww ASC.out k
   have ba:Below wr.heap.size wr (wr.alloc (.cells #[.int .i64 (kOf l k), .int .i64 (vOf l k)] 42)):=(Below.refl _ _).alloc (Nat.le_refl _) _
   have SA:Hid _:=DY.below hsrt ba
   have INFO:Hid _:=And.intro ba (And.intro hF hb)
   clear hk hv hsrt hF hb hbw ba;go_wp2_with fail;refine(Io (w.heap.size+1) F (l.take k) _ _ _ SA.out AT.out (by omega)).mono ?_
   rintro e w1 ⟨rfl,F',h1,h2,h3⟩
   obtain⟨ba,hF,hb⟩:=INFO.out
   have hc:Chg F wr w1:=(Chg.of_below ba).trans h2 (fun _ _ e=>e)
   have B1:Below (w.heap.size+1) W0 w1:=hb.trans (hc.below (fun g _ hg=>hF g hg) (by omega))
   have F1:∀g,F' g->w.heap.size+1<=g:=fun g hg=>(h3 g hg).elim (hF g) (fun hh=>by have:=ba.size;omega)
   rw[TP.out] at h1
   have FIN:Hid _:=And.intro h1 (And.intro F1 B1)
   clear h1 h2 h3 hc B1 F1 ba hF hb INFO;go_wp2;go_roundw
   case rel=>exact⟨k+1,F',by omega,by go_num,FIN.out.1,FIN.out.2.1,FIN.out.2.2⟩
   case measure=>simp[intOf];omega
  ·have hkk:k=l.length:=by omega
   subst hkk;rw[List.take_of_length_le (Nat.le_refl _)] at hsrt
   obtain⟨kv,vv,h1,h2,h3,h4,h5,h6,h7⟩:=hsrt
   obtain⟨ka,kc,hkv⟩:=A8 h2
   obtain⟨vva,vc,hvv⟩:=A8 h3
   have c0:wr.cell? ⟨w.heap.size+1,0,none⟩=some kv:=by rw[Ae h1];rfl
   have c1:wr.cell? ⟨w.heap.size+1,1,none⟩=some vv:=by rw[Ae h1];rfl
   have hA:=(hb.block w.heap.size (by omega)).trans HA.out
   have e0:wr.cell? ⟨w.heap.size,0,none⟩=some (.slice none 0 0):=by rw[Ae hA];rfl
   have e1:wr.cell? ⟨w.heap.size,1,none⟩=some (.slice none 0 0):=by rw[Ae hA];rfl
   have f0:wr.frozen? ⟨w.heap.size,0,none⟩=false:=AK hA
   have f1:wr.frozen? ⟨w.heap.size,1,none⟩=false:=AK hA
   have hch:Chg (fun g=>g=w.heap.size) wr ((wr.setCell ⟨w.heap.size,0,none⟩ kv).setCell ⟨w.heap.size,1,none⟩ vv):=Chg.setAt (F:=fun g=>g=w.heap.size) (Chg.setAt (F:=fun g=>g=w.heap.size) (Chg.refl _ _) _ _ rfl _) _ _ rfl _
   have k2:=NZ (base:=w.heap.size) (AN h2 hch (fun g hg e=>by have:=hF g (h6 g hg);omega)) (fun g hg=>by have:=hF g (h6 g hg);omega)
   have v2:=NZ (base:=w.heap.size) (AN h3 hch (fun g hg e=>by have:=hF g (h7 g hg);omega)) (fun g hg=>by have:=hF g (h7 g hg);omega)
   have B2:Below w.heap.size w ((wr.setCell ⟨w.heap.size,0,none⟩ kv).setCell ⟨w.heap.size,1,none⟩ vv):=(hbw.setCell (Nat.le_refl _) _).setCell (Nat.le_refl _) _
   rw[Dd] at k2 hkv
   rw[EO] at v2 hvv
   rw[hkv] at c0 k2 h4 B2 v2
   rw[hvv] at c1 v2 h4 B2 k2
   have hA2:((wr.setCell ⟨w.heap.size,0,none⟩ (.slice ka l.length kc)).setCell ⟨w.heap.size,1,none⟩ (.slice vva l.length vc)).heap[w.heap.size]? =some (.cells #[.slice ka l.length kc, .slice vva l.length vc] 121 (0,0)):=by
    rw[heap_setCell_same _ _ _ _ _ _ (heap_setCell_same wr _ _ _ _ _ hA)];rfl
   have q0:((wr.setCell ⟨w.heap.size,0,none⟩ (.slice ka l.length kc)).setCell ⟨w.heap.size,1,none⟩ (.slice vva l.length vc)).cell? ⟨w.heap.size,0,none⟩=some (.slice ka l.length kc):=by rw[Ae hA2];rfl
   have q1:((wr.setCell ⟨w.heap.size,0,none⟩ (.slice ka l.length kc)).setCell ⟨w.heap.size,1,none⟩ (.slice vva l.length vc)).cell? ⟨w.heap.size,1,none⟩=some (.slice vva l.length vc):=by rw[Ae hA2];rfl
   have FIN:Hid _:=And.intro k2 (And.intro v2 (And.intro h4 B2))
   clear h1 h2 h3 h4 h5 h6 h7 hkv hvv hA hA2 hch k2 v2 B2 hF hb hbw hbs hk hv;go_wp2;refine bodyPost_ret (v:= .agg #[.slice ka l.length kc, .slice vva l.length vc]) (by simp[results,Tryz.results89,go_sem,q0,q1]) rfl ?_
   exact⟨_,_,rfl,FIN.out.1,FIN.out.2.1,FIN.out.2.2.1,FIN.out.2.2.2⟩

theorem X7 (l:PL) (i:Nat) (h:i<l.length):((Bo l).map (Value.int .i64))[i]? =some (.int .i64 (kOf l i)):=by simp[Bo,kOf,List.getD,h]
theorem Xy (l:PL) (i:Nat) (h:i<l.length):((Fg l).map (Value.int .i64))[i]? =some (.int .i64 (vOf l i)):=by simp[Fg,vOf,List.getD,h]

theorem Qn (kv vv:Value) (l:PL) (w:World) (h1:Row w kv l.length ((Bo l).map (Value.int .i64))) (h2:Row w vv l.length ((Fg l).map (Value.int .i64))) (hn:l.length<=2097152) :
  Calls Tryz.prog 92 #[.agg #[kv,vv]] w fun e w' =>∃v',e= .returned v' ∧w'.ownsRow w.heap.size 42 2 v' l.length (Af l)/\Below w.heap.size w w' :=by
 obtain⟨i0,hi,hz0,hz1,hz2⟩:=info_parts Tryz.info42
 obtain⟨a,b,off,cap,rfl,hcap,hmax,ha,hk,_⟩:=h1
 obtain⟨a2,b2,off2,cap2,rfl,hcap2,hmax2,ha2,hv,_⟩:=h2
 unfold maxLen at hmax hmax2;have b0:Below w.heap.size w (w.alloc (.cells #[.slice a l.length cap, .slice a2 l.length cap2] 121)):=(Below.refl _ _).alloc (Nat.le_refl _) _
 have hs0:(w.alloc (.cells #[.slice a l.length cap, .slice a2 l.length cap2] 121)).heap.size=w.heap.size+1:=by simp
 have hB:=heap_alloc_new w (.cells #[.slice a l.length cap, .slice a2 l.length cap2] 121)
 have BB:Hid _:=And.intro b0 hB
 clear b0 hB;go_enter Tryz.func92,Tryz.ntmps92
 go_wp2;generalize hW0:w.alloc (.cells #[.slice a l.length cap, .slice a2 l.length cap2] 121)=W0 at *
 clear hW0;go_loopw [3,9] (fun out i wr=>∃k:Nat,k<=l.length/\i= .int .i64 k/\wr.ownsRow (w.heap.size+1) 42 2 out (l.take k).length (Af (l.take k))/\Below (w.heap.size+1) W0 wr)
  (fun _ i _=>l.length-(intOf i).toNat)
 case atStart=>exact⟨0,Nat.zero_le _,rfl,World.ownsRow_nil _ _ _ _,Below.refl _ _⟩
 case round=>
  obtain⟨k,hkl,rfl,hown,hb⟩:=hrel
  have hbw:Below w.heap.size w wr:=BB.out.1.trans (hb.mono (by omega))
  have hbs:=hb.size
  by_cases hlt:k<l.length
  ·have hal:=ha (by omega)
   subst hal;have hal2:=ha2 (by omega)
   subst hal2;have c0:=hk k _ (X7 l k hlt)
   have c1:=hv k _ (Xy l k hlt)
   have d0:=(hbw.cell (by exact Aa c0)).trans c0
   have d1:=(hbw.cell (by exact Aa c1)).trans c1
   have hA:=(hb.block w.heap.size (by omega)).trans BB.out.2
   have e1:wr.cell? ⟨w.heap.size,1,none⟩=some (.slice (some ⟨b2,off2,none⟩) l.length cap2):=by rw[Ae hA];rfl
   have DS:Hid _:=Gp l k hlt
   have htl:(l.take k).length<=k:=List.length_take_le _ _
   generalize l.take k=D at *
   have HR:Hid _:=Bn (n:=D.length) (bytes:=16) (by omega) (by decide)
   have hbs1:w.heap.size+1<=wr.heap.size:=by omega
   clear hk hv c0 c1 hA hbw;go_wp2_with (at_builtin;refine BJ wr rfl _ _ 24 rfl (w.heap.size+1) 42 i0 _ 2 16 Tryz.underlying24 hi hz0 hz1 hz2 rfl (by decide) u3 _ _ rfl hown [.int .i64 (kOf l k), .int .i64 (vOf l k)] rfl rfl (FV _ _) HR.out.1 HR.out.2 hbs1 ?_)
   intro v1 w1 ho1 _ hb1;rw[DT] at ho1
   have hb2:=hb.trans hb1
   clear d0 d1 hown hb hb1 hbs;go_wp2;go_roundw
   case rel=>exact⟨k+1,by omega,by go_num,by rw[DS.out,List.length_append];exact ho1,hb2⟩
   case measure=>simp[intOf];omega
  ·have hkk:k=l.length:=by omega
   subst hkk;rw[List.take_of_length_le (Nat.le_refl _)] at hown
   have FIN:Hid _:=And.intro (AM hown (show w.heap.size<=w.heap.size+1 by omega)) hbw
   clear hown hbw hb;go_wp2;go_ret;exact⟨_,rfl,FIN.out.1,FIN.out.2⟩
end
section
open Go.RowKit

theorem XR {l:PL} (h:CY l) (ms:ML):Cg l ms=(Ca ms).foldl doP l:=by
 induction ms generalizing l with
 |nil=>rfl
 |cons m ms ih=>
  have hM:Bf l=true:=(Ez l).2 h
  obtain⟨o,k,v⟩:=m
  cases hq:AO o k v
  ·rw[Cg,List.foldl_cons,Pm (Or.inr hq),Ca,List.filter_cons_of_neg (by simp[okM,hq])]
   exact ih h
  ·rw[Cg,List.foldl_cons,W7 hM hq,Ca,List.filter_cons_of_pos (by simp[okM,hq]),List.foldl_cons]
   exact ih (LD h hq)
theorem St {l:PL} (h:CY l) (ms:ML) (hm:∀m∈ms,okM m=true):CY (ms.foldl doP l):=by
 induction ms generalizing l with
 |nil=>exact h
 |cons m ms ih=>exact ih (LD h (hm m (by simp))) (fun q hq=>hm q (by simp[hq]))
theorem Te (l:PL) (h:Asc l) (a:Int) (ha:∀p∈l,a<=p.1/\p.1<=999) (ha2:a<=1000):(l.length:Int)<=1000-a:=by
 induction l generalizing a with
 |nil=>simp;omega
 |cons p l ih=>
  obtain⟨h1,h2⟩:=h.cons
  have hp:=ha p (by simp)
  have:=ih h2 (p.1+1) (fun q hq=>⟨by have:=h1 q hq;omega,(ha q (by simp[hq])).2⟩) (by omega)
  simp only[List.length_cons]
  omega
theorem Fv {l:PL} (h:CY l):l.length<=1000:=by
 have:=Te l h.1 0 (fun p hp=>(h.2 p hp).1) (by omega)
 omega
theorem Ji (l:PL) (ms:ML):(ms.foldl doP l).length<=l.length+ms.length:=by
 induction ms generalizing l with
 |nil=>simp
 |cons m ms ih=>
  have h1:=ih (doP l m)
  have h2:=MV l m
  simp only[List.foldl_cons,List.length_cons] at *
  omega
theorem S8 (l:PL) (ms:ML) (k:Nat) (h:k<ms.length):(ms.take (k+1)).foldl doP l=doP ((ms.take k).foldl doP l) (mO ms k,mK ms k,mV ms k):=by
 rw[DV ms k h,List.foldl_append];rfl

theorem DY.lt {w:World} {B:Nat} {F:Nat->Prop} {l:PL} (h:DY w B F l):B<w.heap.size:=by
 obtain⟨kv,vv,h1,_⟩:=h
 exact(Array.getElem?_eq_some_iff.1 h1).1

theorem H9 (va vm:Value) (l:PL) (ms:ML) (w:World) (h:Row w va l.length (Af l)) (hm:Row w vm ms.length (Ag ms)) (hn:l.length+ms.length<=2097152) :
  Calls Tryz.prog 70 #[va,vm] w fun e w' =>∃v',e= .returned v' ∧w'.ownsRow w.heap.size 42 2 v' (Cg l ms).length (Af (Cg l ms))/\Below w.heap.size w w' :=by
 have RW:Hid (Row w va l.length (Af l)):=h
 have RM:Hid (Row w vm ms.length (Ag ms)):=hm
 clear h hm
 cases hM:Bf l
 ·obtain⟨i0,hi,hz0,hz1,hz2⟩:=info_parts Tryz.info42
  have HR:Hid _:=Gb (n:=l.length) (bytes:=16) (by omega) (by decide)
  have E:Hid (Cg l ms=l):=QX hM ms
  go_enter Tryz.func70,Tryz.ntmps70
  go_wp2_with fail;refine(Ft va l _ RW.out).mono ?_
  rw[hM]
  rintro e w1 ⟨rfl,b1⟩
  have B1s:=b1.size
  have RR:Hid (Row w1 va l.length (Af l)):=RW.out.below b1
  clear hM;go_wp2_with (at_builtin;refine E7 w1 rfl _ _ 24 rfl w.heap.size 42 i0 _ 2 16 Tryz.underlying24 hi hz0 hz1 hz2 rfl (by decide) (.slice none 0 0) 0 [] rfl (World.ownsRow_nil _ _ _ _) va l.length (Af l) rfl RR.out (Br _) (DJ _) HR.out.1 HR.out.2 B1s ?_)
  intro v' w2 ho2 _ hb2;have B2:Below w.heap.size w w2:=b1.trans hb2
  clear hb2 b1;go_wp2;go_ret;rw[E.out]
  exact⟨_,rfl,by simpa using ho2,B2⟩
 ·have hmp:CY l:=(Ez l).1 hM
  have E:Hid (Cg l ms=(Ca ms).foldl doP l):=XR hmp ms
  have HMP:Hid (CY l):=hmp
  have hml:=Fv hmp
  have hol:=H6 ms
  have HOK:Hid (∀m∈Ca ms,okM m=true):=fun m hm=>(List.mem_filter.1 hm).2
  clear hmp;go_enter Tryz.func70,Tryz.ntmps70
  go_wp2_with fail;refine(Ft va l _ RW.out).mono ?_
  rw[hM]
  rintro e w1 ⟨rfl,b1⟩
  have B1:Hid (Below w.heap.size w w1):=b1
  clear hM b1;go_wp2_with fail;refine(PQ va l _ (RW.out.below B1.out) HMP.out.1 (by omega)).mono ?_
  rintro e w2 ⟨kv,vv,rfl,o1,o2,hd,b2⟩
  obtain⟨ka,kc,hkv⟩:=A8 o1
  obtain⟨vva,vc,hvv⟩:=A8 o2
  subst hkv;subst hvv;have B2:Below w.heap.size w w2:=Below.and B1.out b2
  have b3:Below w2.heap.size w2 (w2.alloc (.cells #[.slice ka l.length kc, .slice vva l.length vc] 121)):=(Below.refl _ _).alloc (Nat.le_refl _) _
  have SRT:DY (w2.alloc (.cells #[.slice ka l.length kc, .slice vva l.length vc] 121)) w2.heap.size (fun g=>g=w2.heap.size∨(Value.slice ka l.length kc).ownBlock=some g∨(Value.slice vva l.length vc).ownBlock=some g) l:=
   ⟨_,_,heap_alloc_new w2 _,by rw[Dd];exact AD (AM o1 (Nat.zero_le _)) b3,by rw[EO];exact AD (AM o2 (Nat.zero_le _)) b3,hd,Or.inl rfl,fun g hg=>Or.inr (Or.inl hg),fun g hg=>Or.inr (Or.inr hg)⟩
  have hF0:∀g,(g=w2.heap.size∨(Value.slice ka l.length kc).ownBlock=some g∨(Value.slice vva l.length vc).ownBlock=some g)->w.heap.size<=g/\g<(w2.alloc (.cells #[.slice ka l.length kc, .slice vva l.length vc] 121)).heap.size:=by
   have hs:=B2.size
   have hs1:=B1.out.size
   rintro g (rfl|hg|hg)
   ·exact⟨by omega,by simp⟩
   ·have:=o1.lt g hg;exact⟨by omega,by simp;omega⟩
   ·have:=o2.lt g hg;exact⟨by omega,by simp;omega⟩
  have INFO:Hid _:=And.intro SRT (And.intro hF0 (And.intro b3 B2))
  clear SRT hF0 b3 B2 b2 hd o1 o2 B1;go_wp2_with fail;obtain⟨SRT,hF0,b3,B2⟩:=INFO.out
  refine(IE vm ms _ ((RM.out.below B2).below b3) (by omega)).mono ?_
  rintro e w4 ⟨cs,rfl,oc,b4⟩
  generalize hms:Ca ms=cm at *
  obtain⟨ca,cc,hcs⟩:=A8 oc
  subst hcs;have SRT4:=SRT.below b4
  have B4:Below w.heap.size w w4:=Below.and (Below.and B2 b3) b4
  have hcl:∀g,(Value.slice ca cm.length cc).ownBlock=some g->(w2.alloc (.cells #[.slice ka l.length kc, .slice vva l.length vc] 121)).heap.size<=g:=fun g hg=>(oc.lt g hg).1
  have hB2:w2.heap.size<w4.heap.size:=SRT4.lt
  have hcm:cc<=maxLen:=by
   obtain⟨_,⟨e,_⟩|⟨g,cap',cur,e,_,_,_,hc,_⟩⟩:=oc
   ·simp at e;rw[e.2.2];exact Nat.zero_le _
   ·simp at e;rw[e.2];exact hc
  have START:Hid _:=And.intro SRT4 (And.intro (fun g (hg:g=w2.heap.size∨(Value.slice ka l.length kc).ownBlock=some g∨(Value.slice vva l.length vc).ownBlock=some g)=>(hF0 g hg).1) (And.intro (fun g (hg:g=w2.heap.size∨(Value.slice ka l.length kc).ownBlock=some g∨(Value.slice vva l.length vc).ownBlock=some g) (hh:(Value.slice ca cm.length cc).ownBlock=some g)=>(show False by have h1:=(hF0 g hg).2;have h2:=hcl g hh;omega)) (And.intro (AM (base' :=0) oc (Nat.zero_le _)) B4)))
  unfold maxLen at hcm;clear SRT SRT4 hF0 b3 b4 B2 B4 oc hcl INFO RW RM hms;go_wp2;go_loopw [18] (fun i wr=>∃(k:Nat) (F:Nat->Prop),k<=cm.length/\i= .int .i64 k/\DY wr w2.heap.size F ((cm.take k).foldl doP l)/\(∀g,F g->w.heap.size<=g)/\(∀g,F g->(Value.slice ca cm.length cc).ownBlock=some g->False)/\wr.ownsRow 0 126 1 (.slice ca cm.length cc) cm.length (cm.map Cw)/\Below w.heap.size w wr)
   (fun i _=>cm.length-(intOf i).toNat)
  case atStart=>exact⟨0,_,Nat.zero_le _,rfl,START.out.1,START.out.2.1,START.out.2.2.1,START.out.2.2.2.1,START.out.2.2.2.2⟩
  case round=>
   obtain⟨k,F,hkl,rfl,hsrt,hF,hFc,hoc,hb⟩:=hrel
   clear START;by_cases hlt:k<cm.length
   ·have hex:∃g,ca=some ⟨g,0,none⟩:=by
     obtain⟨_,⟨e,e2⟩|⟨g,cap',cur,e,_⟩⟩:=hoc
     ·omega
     ·simp at e;exact⟨g,e.1⟩
    obtain⟨g,rfl⟩:=hex
    have hcell:wr.cell? ⟨g,k,none⟩=some (Cw (mO cm k,mK cm k,mV cm k)):=by
     rw[hoc.cellAt k (by omega),List.getElem?_map,List.getElem?_eq_getElem hlt,DW cm k hlt];rfl
    obtain⟨tt,xx,hx⟩:=IY (mO cm k,mK cm k,mV cm k)
    rw[hx] at hcell
    have hmk:AO (mO cm k) (mK cm k) (mV cm k)=true:=by
     have:=HOK.out cm[k] (List.getElem_mem hlt)
     rw[DW cm k hlt] at this
     exact this
    have FSUC:Hid _:=S8 l cm k hlt
    have hfl:=Ji l (cm.take k)
    have htl:(cm.take k).length<=k:=List.length_take_le _ _
    have MP:Hid _:=St HMP.out (cm.take k) (fun m hm=>HOK.out m (List.mem_of_mem_take hm))
    generalize (cm.take k).foldl doP l=A at *
    have hA:=Fv MP.out
    have TU:=W5 w2.heap.size F A (mO cm k) (mK cm k) (mV cm k) wr hsrt MP.out hmk (by omega)
    rw[hx] at TU
    have TU' :Hid _:=(fun (_:Nat)=>TU)
    have INFO:Hid _:=And.intro hF (And.intro hFc (And.intro hoc hb))
    clear TU hF hFc hoc hb hsrt hmk hx;go_wp2_with fail;refine(TU'.out 0).mono ?_
    rintro e w5 ⟨rfl,F',h1,h2,h3⟩
    obtain⟨hF,hFc,hoc,hb⟩:=INFO.out
    have hwlt:∀g',(Value.slice (some ⟨g,0,none⟩) cm.length cc).ownBlock=some g' ->g' < wr.heap.size:=fun g' hg' =>(DQ hoc hg').1
    have hbs:=hb.size
    have FIN:Hid _:=And.intro h1 (And.intro (show ∀g',F' g' ->w.heap.size<=g' from fun g' hg' =>(h3 g' hg').elim (hF g') (fun hh=>by omega)) (And.intro (show ∀g',F' g' ->(Value.slice (some ⟨g,0,none⟩) cm.length cc).ownBlock=some g' ->False from fun g' hg' hh=>(h3 g' hg').elim (fun hh2=>hFc g' hh2 hh) (fun hh2=>by have:=hwlt g' hh;omega))
     (And.intro (AN hoc h2 (fun g' hg' hh=>hFc g' hh hg')) (hb.trans (h2.below (fun g' _ hg' =>hF g' hg') hbs)))))
    clear h1 h2 h3 hF hFc hoc hb hwlt hbs INFO TU';go_wp2;go_roundw
    case rel=>exact⟨k+1,F',by omega,by go_num,by rw[FSUC.out];exact FIN.out.1,FIN.out.2.1,FIN.out.2.2.1,FIN.out.2.2.2.1,FIN.out.2.2.2.2⟩
    case measure=>simp[intOf];omega
   ·have hkk:k=cm.length:=by omega
    subst hkk;rw[List.take_of_length_le (Nat.le_refl _)] at hsrt
    have hfl:=Ji l cm
    rw[←E.out] at hsrt hfl
    obtain⟨kv',vv',h1,h2,h3,h4,h5,h6,h7⟩:=hsrt
    rw[Dd] at h2
    rw[EO] at h3
    have R1:=Row.of_owns h2
    have R2:=Row.of_owns h3
    obtain⟨ka',kc',hkv'⟩:=A8 h2
    obtain⟨va',vc',hvv'⟩:=A8 h3
    have c0:wr.cell? ⟨w2.heap.size,0,none⟩=some kv' :=by rw[Ae h1];rfl
    have c1:wr.cell? ⟨w2.heap.size,1,none⟩=some vv' :=by rw[Ae h1];rfl
    rw[hkv'] at c0 R1
    rw[hvv'] at c1 R2
    have PO:Hid _:=(fun (_:Nat)=>Qn _ _ (Cg l ms) wr R1 R2 (by omega))
    have hbh:Hid _:=hb
    clear h1 h2 h3 h4 h5 h6 h7 hkv' hvv' hF hFc hoc hb R1 R2;go_wp2_with fail;refine(PO.out 0).mono ?_
    rintro e w6 ⟨v6,rfl,o6,b6⟩
    go_wp2;go_ret;exact⟨_,rfl,AM o6 hbh.out.size,Below.and hbh.out b6⟩
end
section
open Go.RowKit

theorem VT (l:PL) (ms:ML) (k:Nat) (h:k<ms.length):Cg l (ms.take (k+1))=doL (Cg l (ms.take k)) (mO ms k,mK ms k,mV ms k):=by
 rw[DV ms k h,Cg,List.foldl_append];rfl

theorem Ia (va vm:Value) (l:PL) (ms:ML) (w:World) (h:Row w va l.length (Af l)) (hm:Row w vm ms.length (Ag ms)) (hn:l.length+ms.length<=2097152) :
  Calls Tryz.prog 57 #[va,vm] w fun e w' =>∃v',e= .returned v' ∧w'.ownsRow w.heap.size 42 2 v' (Cg l ms).length (Af (Cg l ms))/\Below w.heap.size w w' :=by
 obtain⟨i0,hi,hz0,hz1,hz2⟩:=info_parts Tryz.info42
 have RW:Hid (Row w va l.length (Af l)):=h
 have HR:Hid _:=Gb (n:=l.length) (bytes:=16) (by omega) (by decide)
 have Hb:Hid (w.heap.size<=(w.alloc (.cells #[] 42)).heap.size):=by show _<=_;simp
 obtain⟨a,b,off,cap,rfl,hcap,hmax,ha,ho,hk,hv⟩:=hm.msgs
 unfold maxLen at hmax;clear h;go_enter Tryz.func57,Tryz.ntmps57
 go_wp2_with (at_builtin;refine E7 (w.alloc (.cells #[] 42)) rfl _ _ 24 rfl w.heap.size 42 i0 _ 2 16 Tryz.underlying24 hi hz0 hz1 hz2 rfl (by decide) (.slice (some ⟨w.heap.size,0,none⟩) 0 0) 0 [] rfl (Dp w w.heap.size 42 2 (Nat.le_refl _)) va l.length (Af l) rfl (RW.out.below ((Below.refl _ _).alloc (Nat.le_refl _) _)) (Br _) (DJ _) HR.out.1 HR.out.2 Hb.out ?_)
 intro v0 w0 ho0 _ hb0;have B0:Below w.heap.size w w0:=((Below.refl _ _).alloc (Nat.le_refl _) _).trans hb0
 clear hb0;go_wp2;go_loopw [5,6] (fun out i wr=>∃k:Nat,k<=ms.length/\i= .int .i64 k/\wr.ownsRow w.heap.size 42 2 out (Cg l (ms.take k)).length (Af (Cg l (ms.take k)))/\Below w.heap.size w wr)
  (fun _ i _=>ms.length-(intOf i).toNat)
 case atStart=>exact⟨0,Nat.zero_le _,rfl,ho0,B0⟩
 case round=>
  obtain⟨k,hkl,rfl,hown,hb⟩:=hrel
  by_cases hlt:k<ms.length
  ·have hal:=ha (by omega)
   subst hal;have d0:=(hb.cell (by exact Aa (ho k hlt))).trans (ho k hlt)
   have d1:=(hb.cell (by exact Aa (hk k hlt))).trans (hk k hlt)
   have d2:=(hb.cell (by exact Aa (hv k hlt))).trans (hv k hlt)
   have DS:Hid _:=VT l ms k hlt
   have hal:=Fy l (ms.take k)
   have htl:(ms.take k).length<=k:=List.length_take_le _ _
   generalize hA:Cg l (ms.take k)=A at *
   clear hA ho hk hv ho0 B0;have OW:Hid _:=hown
   have RA:Hid (Row wr u5 A.length (Af A)):=Row.of_owns hown
   clear hown;go_wp2_with fail;refine(Nf u5 A _ _ _ wr RA.out (by omega)).mono ?_
   rintro e w1 ⟨v1,rfl,o1,b1⟩
   go_wp2;go_roundw
   case rel=>exact⟨k+1,by omega,by go_num,by rw[DS.out];exact AM o1 hb.size,hb.trans (b1.mono hb.size)⟩
   case measure=>simp[intOf];omega
  ·go_wp2;go_ret;have hkk:k=ms.length:=by omega
   subst hkk;rw[List.take_of_length_le (Nat.le_refl _)] at hown
   exact⟨_,rfl,hown,hb⟩
end
section
open Go.RowKit

def Y4 (T:Tr) (k:Int):ML:=if okT T=true then NQ 7 T k else []
def Y9 (T:Tr) (k:Int):Int × Bool:=if okT T=true then AA (Cg (Rl 7 T k).pairs (NQ 7 T k)) k else (0,false)
end
section
open Go.RowKit

def I8 (m:Nat) (T:Tr) (j:Nat):PL:=T.pairs++((T.kids.take j).map (Ey m)).flatten
theorem Nv (m:Nat) (T:Tr) (j:Nat) (h:j<T.kids.length):I8 m T (j+1)=I8 m T j++Ey m (Bb T j):=by
 rw[I8,I8,List.take_succ_eq_append_getElem h,List.map_append,List.flatten_append, ← List.append_assoc]
 simp[Bb,List.getD,h]
theorem NI (m:Nat) (T:Tr):I8 m T 0=T.pairs:=by simp[I8]
theorem UQ (m:Nat) (T:Tr):Cg (I8 m T T.kids.length) T.buf=Ey (m+1) T:=by
 rw[I8,List.take_of_length_le (Nat.le_refl _),Ey]
theorem Ky {m:Nat} {T:Tr} {lo hi:Int} (h:AG (m+1) T lo hi≠0):∀j,j<=T.kids.length->(I8 m T j).length<=4+1000*j
 |0,_=>by
  rw[NI]
  cases hl:T.leaf
  ·rw[(Bv (Bj h hl).1).1];simp
  ·have:=(Cq (Bl h hl)).2.1
   omega
 |j+1,hj=>by
  have ih:=Ky h j (by omega)
  rw[Nv m T j (by omega),List.length_append]
  cases hl:T.leaf
  ·have:=(Ik ((Bj h hl).2 j (by omega))).1.length
   omega
  ·rw[(Cq (Bl h hl)).2.2.1] at hj
   simp at hj
theorem XH {m:Nat} {T:Tr} {lo hi:Int} (h:AG (m+1) T lo hi≠0):T.kids.length<=4/\T.buf.length<=6/\T.pairs.length<=4:=by
 cases hl:T.leaf
 ·have:=Bv (Bj h hl).1
  exact⟨this.2.1.2,this.2.2.2.1,by rw[this.1];simp⟩
 ·have:=Cq (Bl h hl)
  exact⟨by rw[this.2.2.1];simp,by rw[this.2.2.2.1];simp,this.2.1⟩
theorem N8 {m:Nat} {T:Tr} {lo hi:Int} (h:AG (m+1) T lo hi≠0) {j:Nat} (hj:j<T.kids.length):∃lo' hi',AG m (Bb T j) lo' hi' ≠0:=by
 cases hl:T.leaf
 ·exact⟨_,_,(Bj h hl).2 j hj⟩
 ·rw[(Cq (Bl h hl)).2.2.1] at hj
  simp at hj

def Tx (m:Nat):Prop:=∀(n:Nat) (x:TV) (T:Tr) (lo hi:Int) (w:World),AH n w x T->AG m T lo hi≠0→
 Calls Tryz.prog 42 #[x.val] w fun e w' =>∃v',e= .returned v' ∧w'.ownsRow w.heap.size 42 2 v' (Ey m T).length (Af (Ey m T))/\Below w.heap.size w w'

theorem Yh {m:Nat} (H:Tx m):Tx (m+1):=by
 intro n x T lo hi w ht hd
 cases n with
 |zero=>exact ht.elim
 |succ n=>
 obtain⟨_,hpr,_,hbuf,hkids⟩:=ht.parts
 obtain⟨a1,a2,a3,a4,q1,q2,q3,q4,hx⟩:=ht.shape
 subst hx;simp only at hpr hbuf hkids
 clear ht;obtain⟨i0,hi0,hz0,hz1,hz2⟩:=info_parts Tryz.info42
 obtain⟨hk4,hb6,hp4⟩:=XH hd
 have E0:Hid (((w.alloc (.cells #[.bool T.leaf, .slice a1 T.pairs.length q1, .slice a2 T.cuts.length q2, .slice a3 T.kids.length q3, .slice a4 T.buf.length q4] 29)).alloc (.cells #[] 42)).ownsRow (w.heap.size+1) 42 2 (.slice (some ⟨w.heap.size+1,0,none⟩) 0 0) 0 []):=by
  have:=Dp (w.alloc (.cells #[.bool T.leaf, .slice a1 T.pairs.length q1, .slice a2 T.cuts.length q2, .slice a3 T.kids.length q3, .slice a4 T.buf.length q4] 29)) (w.heap.size+1) 42 2 (by simp)
  rw[World.size_alloc] at this
  exact this
 have B0:Hid (Below w.heap.size w ((w.alloc (.cells #[.bool T.leaf, .slice a1 T.pairs.length q1, .slice a2 T.cuts.length q2, .slice a3 T.kids.length q3, .slice a4 T.buf.length q4] 29)).alloc (.cells #[] 42))):=((Below.refl _ _).alloc (Nat.le_refl _) _).alloc (by simp) _
 have S0:Hid (At ((w.alloc (.cells #[.bool T.leaf, .slice a1 T.pairs.length q1, .slice a2 T.cuts.length q2, .slice a3 T.kids.length q3, .slice a4 T.buf.length q4] 29)).alloc (.cells #[] 42)) w.heap.size #[.bool T.leaf, .slice a1 T.pairs.length q1, .slice a2 T.cuts.length q2, .slice a3 T.kids.length q3, .slice a4 T.buf.length q4]):=
  (At.start w _).step ((Below.refl _ _).alloc (Nat.le_refl _) _)
 have Z0:Hid (w.heap.size+1<=((w.alloc (.cells #[.bool T.leaf, .slice a1 T.pairs.length q1, .slice a2 T.cuts.length q2, .slice a3 T.kids.length q3, .slice a4 T.buf.length q4] 29)).alloc (.cells #[] 42)).heap.size):=by
  show _<=_
  simp
 have AS:Hid (∀j,j<T.kids.length->I8 m T (j+1)=I8 m T j++Ey m (Bb T j)):=fun j hj=>Nv m T j hj
 have AZ:Hid (I8 m T 0=T.pairs):=NI m T
 have AF:Hid (Cg (I8 m T T.kids.length) T.buf=Ey (m+1) T):=UQ m T
 have AL:Hid (∀j,j<=T.kids.length->(I8 m T j).length<=4004):=fun j hj=>by have:=Ky hd j hj;omega
 have ML1:Hid (∀j,j<T.kids.length->(Ey m (Bb T j)).length<=1000):=fun j hj=>by
  obtain⟨lo',hi',h⟩:=N8 hd hj
  exact(Ik h).1.length
 have RP:Hid (Row w (.slice a1 T.pairs.length q1) T.pairs.length (Af T.pairs)):=hpr
 have RB:Hid (Row w (.slice a4 T.buf.length q4) T.buf.length (Ag T.buf)):=hbuf
 obtain⟨xs,hxl,hrow,hk⟩:=hkids
 obtain⟨a3',b3,off3,cap3,hv3,hcap3,hmax3,ha3,c0,c1,c2,c3,c4⟩:=hrow.trees
 simp only[Value.slice.injEq] at hv3
 obtain⟨rfl,_,rfl⟩:=hv3
 unfold maxLen at hmax3;have HP:Hid (∀j,j<T.kids.length->∀w1,Below w.heap.size w w1->Calls Tryz.prog 42 #[(Al xs j).val] w1 fun e w' =>∃v',e= .returned v' ∧w'.ownsRow w1.heap.size 42 2 v' (Ey m (Bb T j)).length (Af (Ey m (Bb T j)))/\Below w1.heap.size w1 w'):=fun j hj w1 hb=>by
  obtain⟨lo',hi',h⟩:=N8 hd hj
  exact H n (Al xs j) (Bb T j) lo' hi' w1 ((hk j (by omega)).below hb) h
 rw[←AF.out]
 clear hpr hbuf hrow hd hk AF;rw[hxl] at *
 generalize hn3:T.kids.length=n3 at *
 generalize I8 m T=fo at *
 generalize T.leaf=tl at *
 generalize T.cuts.length=n2 at *
 show Calls Tryz.prog 42 #[.agg #[.bool tl, .slice a1 T.pairs.length q1, .slice a2 n2 q2, .slice a3 n3 q3, .slice a4 T.buf.length q4]] w _
 have HR0:Hid (0+T.pairs.length<=maxLen/\(0+T.pairs.length)*16<=140737488355328):=⟨by unfold maxLen;omega,by omega⟩
 have H10:Hid (∀y∈Af T.pairs,y.oneCell' =true):=DJ T.pairs
 have HL0:Hid ((Af T.pairs).length=T.pairs.length*2):=Br _
 obtain⟨k0,k1,k2,k3,k4⟩:=AR S0.out
 have R0:Hid _:=RP.out.below B0.out
 go_enter Tryz.func42,Tryz.ntmps42
 go_wp2_with (at_builtin;refine E7 ((w.alloc (.cells #[.bool tl, .slice a1 T.pairs.length q1, .slice a2 n2 q2, .slice a3 n3 q3, .slice a4 T.buf.length q4] 29)).alloc (.cells #[] 42)) rfl _ _ 24 rfl (w.heap.size+1) 42 i0 _ 2 16 Tryz.underlying24 hi0 hz0 hz1 hz2 rfl (by decide) (.slice (some ⟨w.heap.size+1,0,none⟩) 0 0) 0 [] rfl E0.out (.slice a1 T.pairs.length q1) T.pairs.length (Af T.pairs) rfl R0.out HL0.out H10.out HR0.out.1 HR0.out.2 Z0.out ?_)
 intro v1 w1 o1 _ b1;have O1:Hid (w1.ownsRow (w.heap.size+1) 42 2 v1 (fo 0).length (Af (fo 0))):=by
  rw[AZ.out]
  exact o1
 have B1:Hid (Below w.heap.size w w1):=B0.out.trans (b1.mono (Nat.le_succ _))
 have S1:Hid (At w1 w.heap.size _):=S0.out.stepB b1 (Nat.lt_succ_self _)
 clear o1 b1 k0 k1 k2 k3 k4 E0 B0 S0 Z0 R0;go_wp2;go_loopw [3,4] (fun out i wr=>∃j:Nat,j<=n3/\i= .int .i64 j/\Hid (wr.ownsRow (w.heap.size+1) 42 2 out (fo j).length (Af (fo j)))/\Hid (At wr w.heap.size #[.bool tl, .slice a1 T.pairs.length q1, .slice a2 n2 q2, .slice a3 n3 q3, .slice a4 T.buf.length q4])/\Hid (Below w.heap.size w wr))
  (fun _ i _=>n3-(intOf i).toNat)
 case atStart=>exact⟨0,Nat.zero_le _,rfl,O1,S1,B1⟩
 case round=>
  obtain⟨j,hj,rfl,ON,SN,BN⟩:=hrel
  clear O1 S1 B1;obtain⟨k0,k1,k2,k3,k4⟩:=AR SN.out
  by_cases hlt:j<n3
  ·have hal:=ha3 (by omega)
   subst hal;have d0:=Ab BN.out (Aa (c0 j hlt)) (c0 j hlt)
   have d1:=Ab BN.out (Aa (c1 j hlt)) (c1 j hlt)
   have d2:=Ab BN.out (Aa (c2 j hlt)) (c2 j hlt)
   have d3:=Ab BN.out (Aa (c3 j hlt)) (c3 j hlt)
   have d4:=Ab BN.out (Aa (c4 j hlt)) (c4 j hlt)
   have HC:Hid _:=HP.out j hlt wr BN.out
   have AS1:Hid _:=AS.out j hlt
   have hal1:=AL.out j hj
   have hml1:=ML1.out j hlt
   generalize hy:Al xs j=y at *
   obtain⟨yl,yp,yc,yk,yb⟩:=y
   simp only at d0 d1 d2 d3 d4
   generalize Ey m (Bb T j)=KM at *
   clear c0 c1 c2 c3 c4 HP hy;have HR:Hid ((fo j).length+KM.length<=maxLen/\((fo j).length+KM.length)*16<=140737488355328):=⟨by unfold maxLen;omega,by omega⟩
   have H1:Hid (∀y∈Af KM,y.oneCell' =true):=DJ KM
   have HL:Hid ((Af KM).length=KM.length*2):=Br _
   go_wp2_with fail;refine Calls.mono HC.out ?_
   rintro e w2 ⟨v2,rfl,o2,hb2⟩
   have O2:Hid (w2.ownsRow (w.heap.size+1) 42 2 u3 (fo j).length (Af (fo j))):=AD ON.out hb2
   have S2:Hid (At w2 w.heap.size _):=SN.out.step hb2
   have B2:Hid (Below w.heap.size w w2):=Below.and BN.out hb2
   have R2:Hid (Row w2 v2 KM.length (Af KM)):=Row.of_owns o2
   have Z2:Hid (w.heap.size+1<=w2.heap.size):=(Array.getElem?_eq_some_iff.1 S2.out).1
   clear hb2 o2 d0 d1 d2 d3 d4 k0 k1 k2 k3 k4 ON SN BN HC;go_wp2_with (at_builtin;refine E7 w2 rfl _ _ 24 rfl (w.heap.size+1) 42 i0 _ 2 16 Tryz.underlying24 hi0 hz0 hz1 hz2 rfl (by decide) u3 _ _ rfl O2.out v2 KM.length (Af KM) rfl R2.out HL.out H1.out HR.out.1 HR.out.2 Z2.out ?_)
   intro v3 w3 o3 _ b3';have FIN:Hid _:=And.intro o3 (And.intro (S2.out.stepB b3' (Nat.lt_succ_self _)) (B2.out.trans (b3'.mono (Nat.le_succ _))))
   clear o3 b3';go_wp2;go_roundw
   case rel=>exact⟨j+1,by omega,by go_num,by rw[AS1.out,FZ,List.length_append];exact FIN.out.1,FIN.out.2.1,FIN.out.2.2⟩
   case measure=>simp[intOf];omega
  ·have hjj:j=n3:=by omega
   subst hjj;have hal1:=AL.out j (Nat.le_refl _)
   have RO:Hid (Row wr u3 (fo j).length (Af (fo j))):=Row.of_owns ON.out
   clear c0 c1 c2 c3 c4 ha3 ON;go_wp2_with fail;refine Calls.mono (Ia _ _ (fo j) T.buf _ RO.out (RB.out.below BN.out) (by omega)) ?_
   rintro e w2 ⟨v2,rfl,o2,hb2⟩
   have FIN:Hid _:=And.intro (AM o2 BN.out.size) (Below.and BN.out hb2)
   clear o2 hb2 k0 k1 k2 k3 k4;go_wp2;go_ret;exact⟨_,rfl,FIN.out.1,FIN.out.2⟩

theorem Yz:Tx 0:=fun _ _ _ _ _ _ _ h=>absurd rfl h
theorem Ts:∀m,Tx m
 |0=>Yz
 |m+1=>Yh (Ts m)

def DZ (T:Tr):PL:=if okT T=true then Ey 7 T else []
theorem Vl (T:Tr):CY (DZ T):=by
 unfold DZ;split
 ·exact(Ik (GR (by assumption))).1
 ·exact⟨by simp[Asc,Bo],fun p hp=>by simp at hp⟩
theorem Qz (T:Tr):(DZ T).length<=1000:=(Vl T).length
def YW (T:Tr) (lo hi:Int):PL:=Yi (DZ T) lo hi
theorem KY (n:Nat) (x:TV) (T:Tr) (w:World) (ht:AH n w x T) (hsz:AQ n T<=1099511627776) :
  Calls Tryz.prog 17 #[x.val] w fun e w' =>∃v',e= .returned v' ∧w'.ownsRow w.heap.size 42 2 v' (DZ T).length (Af (DZ T))/\Below w.heap.size w w' :=by
 have TT:Hid (AH n w x T):=ht
 clear ht;obtain⟨lf,p,c,k,b⟩:=x
 have B0:Hid _:=F7 w #[.bool lf,p,c,k,b]
 have S0:Hid (At _ w.heap.size _):=At.start w #[.bool lf,p,c,k,b]
 have HC:=Gl n ⟨lf,p,c,k,b⟩ T _ (TT.out.below B0.out) hsz
 have HC' :Hid _:=HC
 clear HC;have P1:Hid (okT T=true->DZ T=Ey 7 T):=fun h=>by rw[DZ,if_pos h]
 have P2:Hid (okT T=false->DZ T=[]):=fun h=>by rw[DZ,if_neg (by rw[h];simp)]
 show Calls Tryz.prog 17 #[.agg #[.bool lf,p,c,k,b]] w _
 cases hok:okT T
 ·rw[P2.out hok]
  rw[hok] at HC'
  clear P1 P2;go_enter Tryz.func17,Tryz.ntmps17
  go_wp2_with fail;refine Calls.mono HC'.out ?_
  rintro e w1 ⟨rfl,hb1⟩
  have B1:Hid (Below w.heap.size w w1):=Below.and B0.out hb1
  clear hb1 B0;go_wp2;go_ret;exact⟨_,rfl,Dp w1 w.heap.size 42 2 B1.out.size,B1.out.alloc B1.out.size _⟩
 ·rw[P1.out hok]
  have HD:Hid (∀w1,Below w.heap.size w w1->Calls Tryz.prog 42 #[.agg #[.bool lf,p,c,k,b]] w1 fun e w' =>∃v',e= .returned v' ∧w'.ownsRow w1.heap.size 42 2 v' (Ey 7 T).length (Af (Ey 7 T))/\Below w1.heap.size w1 w'):=
   fun w1 hb=>Ts 7 n ⟨lf,p,c,k,b⟩ T 0 1000 w1 (TT.out.below hb) (GR hok)
  rw[hok] at HC'
  clear P1 P2;generalize Ey 7 T=M at *
  go_enter Tryz.func17,Tryz.ntmps17
  go_wp2_with fail;refine Calls.mono HC'.out ?_
  rintro e w1 ⟨rfl,hb1⟩
  have B1:Hid (Below w.heap.size w w1):=Below.and B0.out hb1
  have k0:=(S0.out.step hb1).cells
  clear hb1 B0;go_wp2_with fail;refine Calls.mono (HD.out w1 B1.out) ?_
  rintro e w2 ⟨v2,rfl,o2,hb2⟩
  have FIN:Hid _:=And.intro (AM o2 B1.out.size) (Below.and B1.out hb2)
  clear hb2 o2 k0;go_wp2;go_ret;exact⟨_,rfl,FIN.out.1,FIN.out.2⟩

theorem Rq {P:Program} {ops:Array Oper} {rest:List Oper} {o:Oper} {a:Act} {Q:Exit->Act->World->Prop} (W:World) (B:Nat) (hB:W.heap.size=B) (hgd:o.guard=none) (s x:Operand) (t:TypeId)
  (ho:o.op= .call { callee:= .builtin .append,args:= #[s,x],argTypes:= #[t,t] })
  (base:Nat) (e:TypeId) (i:TypeInfo) (z:Value) (size bytes:Nat) (ht:P.underlying t=some (.slice e)) (hi:P.info? e=some i) (hz:i.zero=some z)
  (hsize:i.size=size) (hby:i.bytes=bytes) (hzs:z.cells.size=size) (hsz:0<size)
  (v:Value) (n:Nat) (xs:List Value) (hs:a.eval s=v) (hown:W.ownsRow base e size v n xs)
  (news:List Value) (hx:a.eval x= .slice (some ⟨B,0,none⟩) 1 1) (hl:news.length=size) (h1:∀u∈news,u.oneCell' =true)
  (h63:n+1<=maxLen) (hbytes:(n+1)*bytes<=140737488355328) (hbase:base<=W.heap.size)
  (h:∀v' w',w'.ownsRow base e size v' (n+1) (xs++news)->Chg (fun g=>v.ownBlock=some g) W w' ->Below base W w' ->(∀g,v'.ownBlock=some g->v.ownBlock=some g∨g=B+1)->wpList P ops Q rest (a.put o.dst v') w') :
  wpList P ops Q (o::rest) a (W.alloc (.cells news.toArray e)):=by
 subst hB;refine wpList_append_lies _ hgd s x t ho base e i z size bytes ht hi hz hsize hby hzs hsz v n xs hs (hown.alloc _) ⟨W.heap.size,0,none⟩ 1 1 news hx (by omega) ?_ h1 (by decide) h63 hbytes (by simp;omega) (W.heap.size+1) (by simp) ?_
 ·intro j u hj;rw[Go.WideShapes.add_plain,Nat.zero_add,Ae (heap_alloc_new W _)]
  simpa using hj
 ·intro g cap w' h2 h3 h4 _;have hc:Chg (fun g=>v.ownBlock=some g) W w' :=((Chg.refl _ _).alloc _).trans (Ef h3) (fun _ _ e=>e)
  refine h _ w' h2 hc (Hc hown hc hbase) (fun g' hg' => ?_)
  have:g=g' :=by simpa[Value.ownBlock] using hg'
  subst this;exact h4
end
end Go.Proofs.YtebglpllkjgjbaaGreat
