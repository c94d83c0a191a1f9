/-
  The program's sorted map made of a list of pairs, and told as one.
  The contracts of the program's MapAll and MapDo.
  The contract of the model's MapAll.
  Contracts of chapter 3's Pending and TreeGet, of the model and of the program.
  Contracts of the model's TreeMap and TreeRange.
-/
import Derived.Test.YtcmofojechfccaaGreatOfInject14
import Derived.Test.YtcmofojechfccaaGreatOfInject13
import Derived.Deep.LoopGhost
import Derived.Deep.RegionWith
import Derived.Test.YtcmofojechfccaaGreatOfInject10
namespace Go.Proofs.YtcmofojechfccaaGreat
set_option maxRecDepth 100000
set_option maxHeartbeats 8000000
section
open Go.RowKit

theorem owns_base {w:World} {base e size n:Nat} {v:Value} {xs:List Value} (h:w.ownsRow 0 e size v n xs) (hb:∀g,v.ownBlock=some g->base<=g):w.ownsRow base e size v n xs:=by
 obtain⟨hl,h|⟨g,cap,cur,rfl,hg,hh,hn,hcap,hsz,htake⟩⟩:=h
 ·exact⟨hl, .inl h⟩
 ·exact⟨hl, .inr ⟨g,cap,cur,rfl,hb g rfl,hh,hn,hcap,hsz,htake⟩⟩

theorem sortedOf_any (va:Value) (l:PL) (w:World) (h:Row w va l.length (flatP l)) (hasc:Asc l) (hn:l.length<=1048576) :
  Calls Tryz.prog 146 #[va] w fun e w' =>∃kv vv,e= .returned (.agg #[kv,vv])/\w'.ownsRow w.heap.size 3 1 kv l.length ((keys l).map (Value.int .i64))/\w'.ownsRow w.heap.size 3 1 vv l.length ((vals l).map (Value.int .i64))∧
   (∀g,kv.ownBlock=some g->vv.ownBlock≠some g)/\Below w.heap.size w w' :=by
 obtain⟨a,b,off,cap,rfl,hcap,hmax,ha,hk,hv⟩:=h.pairs
 unfold maxLen at hmax
 have ASC:Hid (Asc l):=hasc
 clear hasc h
 have hs0:((w.alloc (.cells #[.slice none 0 0, .slice none 0 0] 190)).alloc (.cells #[.slice none 0 0, .slice none 0 0] 190)).heap.size=w.heap.size+1+1:=by simp
 have hs1:(w.alloc (.cells #[.slice none 0 0, .slice none 0 0] 190)).heap.size=w.heap.size+1:=by simp
 have hB0:((w.alloc (.cells #[.slice none 0 0, .slice none 0 0] 190)).alloc (.cells #[.slice none 0 0, .slice none 0 0] 190)).heap[w.heap.size+1]? =some (.cells #[.slice none 0 0, .slice none 0 0] 190 (0,0)):=by
  rw[←hs1];exact heap_alloc_new _ _
 have hA0:((w.alloc (.cells #[.slice none 0 0, .slice none 0 0] 190)).alloc (.cells #[.slice none 0 0, .slice none 0 0] 190)).heap[w.heap.size]? =some (.cells #[.slice none 0 0, .slice none 0 0] 190 (0,0)):=by
  rw[Below.heap_alloc _ _ _ (by omega)];exact heap_alloc_new _ _
 have START:Hid (SrtM ((w.alloc (.cells #[.slice none 0 0, .slice none 0 0] 190)).alloc (.cells #[.slice none 0 0, .slice none 0 0] 190)) (w.heap.size+1) (fun g=>g=w.heap.size+1) []):=
  ⟨.slice none 0 0, .slice none 0 0,hB0,World.ownsRow_nil _ _ _ _,World.ownsRow_nil _ _ _ _,fun g hg=>by simp[Value.ownBlock] at hg,rfl,fun g hg=>by simp[Value.ownBlock] at hg,fun g hg=>by simp[Value.ownBlock] at hg⟩
 have b0:Below w.heap.size w ((w.alloc (.cells #[.slice none 0 0, .slice none 0 0] 190)).alloc (.cells #[.slice none 0 0, .slice none 0 0] 190)):=((Below.refl _ _).alloc (Nat.le_refl _) _).alloc (by simp) _
 have BB:Hid _:=b0
 have HA:Hid _:=hA0
 clear b0 hA0 hB0
 go_enter Tryz.func146,Tryz.ntmps146
 go_wp2
 generalize hW0:(w.alloc (.cells #[.slice none 0 0, .slice none 0 0] 190)).alloc (.cells #[.slice none 0 0, .slice none 0 0] 190)=W0 at *
 clear hW0
 go_loopw [8] (fun i wr=>∃(k:Nat) (F:Nat->Prop),k<=l.length/\i= .int .i64 k/\SrtM wr (w.heap.size+1) F (l.take k)/\(∀g,F g->w.heap.size+1<=g)/\Below (w.heap.size+1) W0 wr)
  (fun i _=>l.length-(intOf i).toNat)
 case atStart=>exact⟨0,_,Nat.zero_le _,rfl,START.out,fun g hg=>by omega,Below.refl _ _⟩
 case round=>
  obtain⟨k,F,hkl,rfl,hsrt,hF,hb⟩:=hrel
  have hbw:Below w.heap.size w wr:=BB.out.trans (hb.mono (by omega))
  have hbs:=hb.size
  by_cases hlt:k<l.length
  ·have hal:=ha (by omega)
   subst hal
   have d0:=(hbw.cell (by exact cell_lt (hk k hlt))).trans (hk k hlt)
   have d1:=(hbw.cell (by exact cell_lt (hv k hlt))).trans (hv k hlt)
   have TP:Hid _:=take_put ASC.out k hlt
   have htl:(l.take k).length<=k:=List.length_take_le _ _
   have AT:Hid _:=asc_take ASC.out k
   have ba:Below wr.heap.size wr (wr.alloc (.cells #[.int .i64 (kOf l k), .int .i64 (vOf l k)] 108)):=(Below.refl _ _).alloc (Nat.le_refl _) _
   have SA:Hid _:=SrtM.below hsrt ba
   have INFO:Hid _:=And.intro ba (And.intro hF hb)
   clear hk hv hsrt hF hb hbw ba
   go_wp2_with fail
   refine(put_map (w.heap.size+1) F (l.take k) _ _ _ SA.out AT.out (by omega)).mono ?_
   rintro e w1 ⟨rfl,F',h1,h2,h3⟩
   obtain⟨ba,hF,hb⟩:=INFO.out
   have hc:Chg F wr w1:=(Chg.of_below ba).trans h2 (fun _ _ e=>e)
   have B1:Below (w.heap.size+1) W0 w1:=hb.trans (hc.below (fun g _ hg=>hF g hg) (by omega))
   have F1:∀g,F' g->w.heap.size+1<=g:=fun g hg=>(h3 g hg).elim (hF g) (fun hh=>by have:=ba.size;omega)
   rw[TP.out] at h1
   have FIN:Hid _:=And.intro h1 (And.intro F1 B1)
   clear h1 h2 h3 hc B1 F1 ba hF hb INFO
   go_wp2
   go_roundw
   case rel=>exact⟨k+1,F',by omega,by go_num,FIN.out.1,FIN.out.2.1,FIN.out.2.2⟩
   case measure=>simp[intOf];omega
  ·have hkk:k=l.length:=by omega
   subst hkk
   rw[List.take_of_length_le (Nat.le_refl _)] at hsrt
   obtain⟨kv,vv,h1,h2,h3,h4,h5,h6,h7⟩:=hsrt
   obtain⟨ka,kc,hkv⟩:=owns_val h2
   obtain⟨vva,vc,hvv⟩:=owns_val h3
   have c0:wr.cell? ⟨w.heap.size+1,0,none⟩=some kv:=by rw[cell_of_cells h1];rfl
   have c1:wr.cell? ⟨w.heap.size+1,1,none⟩=some vv:=by rw[cell_of_cells h1];rfl
   have hA:=(hb.block w.heap.size (by omega)).trans HA.out
   have e0:wr.cell? ⟨w.heap.size,0,none⟩=some (.slice none 0 0):=by rw[cell_of_cells hA];rfl
   have e1:wr.cell? ⟨w.heap.size,1,none⟩=some (.slice none 0 0):=by rw[cell_of_cells hA];rfl
   have f0:wr.frozen? ⟨w.heap.size,0,none⟩=false:=frozen_of_cells hA
   have f1:wr.frozen? ⟨w.heap.size,1,none⟩=false:=frozen_of_cells hA
   have hch:Chg (fun g=>g=w.heap.size) wr ((wr.setCell ⟨w.heap.size,0,none⟩ kv).setCell ⟨w.heap.size,1,none⟩ vv):=Chg.setAt (F:=fun g=>g=w.heap.size) (Chg.setAt (F:=fun g=>g=w.heap.size) (Chg.refl _ _) _ _ rfl _) _ _ rfl _
   have k2:=owns_base (base:=w.heap.size) (owns_chg h2 hch (fun g hg e=>by have:=hF g (h6 g hg);omega)) (fun g hg=>by have:=hF g (h6 g hg);omega)
   have v2:=owns_base (base:=w.heap.size) (owns_chg h3 hch (fun g hg e=>by have:=hF g (h7 g hg);omega)) (fun g hg=>by have:=hF g (h7 g hg);omega)
   have B2:Below w.heap.size w ((wr.setCell ⟨w.heap.size,0,none⟩ kv).setCell ⟨w.heap.size,1,none⟩ vv):=(hbw.setCell (Nat.le_refl _) _).setCell (Nat.le_refl _) _
   rw[keys_length] at k2 hkv
   rw[vals_length] at v2 hvv
   rw[hkv] at c0 k2 h4 B2 v2
   rw[hvv] at c1 v2 h4 B2 k2
   have hA2:((wr.setCell ⟨w.heap.size,0,none⟩ (.slice ka l.length kc)).setCell ⟨w.heap.size,1,none⟩ (.slice vva l.length vc)).heap[w.heap.size]? =some (.cells #[.slice ka l.length kc, .slice vva l.length vc] 190 (0,0)):=by
    rw[heap_setCell_same _ _ _ _ _ _ (heap_setCell_same wr _ _ _ _ _ hA)];rfl
   have q0:((wr.setCell ⟨w.heap.size,0,none⟩ (.slice ka l.length kc)).setCell ⟨w.heap.size,1,none⟩ (.slice vva l.length vc)).cell? ⟨w.heap.size,0,none⟩=some (.slice ka l.length kc):=by rw[cell_of_cells hA2];rfl
   have q1:((wr.setCell ⟨w.heap.size,0,none⟩ (.slice ka l.length kc)).setCell ⟨w.heap.size,1,none⟩ (.slice vva l.length vc)).cell? ⟨w.heap.size,1,none⟩=some (.slice vva l.length vc):=by rw[cell_of_cells hA2];rfl
   have FIN:Hid _:=And.intro k2 (And.intro v2 (And.intro h4 B2))
   clear h1 h2 h3 h4 h5 h6 h7 hkv hvv hA hA2 hch k2 v2 B2 hF hb hbw hbs hk hv
   go_wp2
   refine bodyPost_ret (v:= .agg #[.slice ka l.length kc, .slice vva l.length vc]) (by simp[results,Tryz.results146,go_sem,q0,q1]) rfl ?_
   exact⟨_,_,rfl,FIN.out.1,FIN.out.2.1,FIN.out.2.2.1,FIN.out.2.2.2⟩

theorem keys_at (l:PL) (i:Nat) (h:i<l.length):((keys l).map (Value.int .i64))[i]? =some (.int .i64 (kOf l i)):=by simp[keys,kOf,List.getD,h]
theorem vals_at (l:PL) (i:Nat) (h:i<l.length):((vals l).map (Value.int .i64))[i]? =some (.int .i64 (vOf l i)):=by simp[vals,vOf,List.getD,h]

theorem pairsOf_any (kv vv:Value) (l:PL) (w:World) (h1:Row w kv l.length ((keys l).map (Value.int .i64))) (h2:Row w vv l.length ((vals l).map (Value.int .i64))) (hn:l.length<=2097152) :
  Calls Tryz.prog 149 #[.agg #[kv,vv]] w fun e w' =>∃v',e= .returned v' ∧w'.ownsRow w.heap.size 108 2 v' l.length (flatP l)/\Below w.heap.size w w' :=by
 obtain⟨i0,hi,hz0,hz1,hz2⟩:=info_parts Tryz.info108
 obtain⟨a,b,off,cap,rfl,hcap,hmax,ha,hk,_⟩:=h1
 obtain⟨a2,b2,off2,cap2,rfl,hcap2,hmax2,ha2,hv,_⟩:=h2
 unfold maxLen at hmax hmax2
 have b0:Below w.heap.size w (w.alloc (.cells #[.slice a l.length cap, .slice a2 l.length cap2] 190)):=(Below.refl _ _).alloc (Nat.le_refl _) _
 have hs0:(w.alloc (.cells #[.slice a l.length cap, .slice a2 l.length cap2] 190)).heap.size=w.heap.size+1:=by simp
 have hB:=heap_alloc_new w (.cells #[.slice a l.length cap, .slice a2 l.length cap2] 190)
 have BB:Hid _:=And.intro b0 hB
 clear b0 hB
 go_enter Tryz.func149,Tryz.ntmps149
 go_wp2
 generalize hW0:w.alloc (.cells #[.slice a l.length cap, .slice a2 l.length cap2] 190)=W0 at *
 clear hW0
 go_loopw [3,9] (fun out i wr=>∃k:Nat,k<=l.length/\i= .int .i64 k/\wr.ownsRow (w.heap.size+1) 108 2 out (l.take k).length (flatP (l.take k))/\Below (w.heap.size+1) W0 wr)
  (fun _ i _=>l.length-(intOf i).toNat)
 case atStart=>exact⟨0,Nat.zero_le _,rfl,World.ownsRow_nil _ _ _ _,Below.refl _ _⟩
 case round=>
  obtain⟨k,hkl,rfl,hown,hb⟩:=hrel
  have hbw:Below w.heap.size w wr:=BB.out.1.trans (hb.mono (by omega))
  have hbs:=hb.size
  by_cases hlt:k<l.length
  ·have hal:=ha (by omega)
   subst hal
   have hal2:=ha2 (by omega)
   subst hal2
   have c0:=hk k _ (keys_at l k hlt)
   have c1:=hv k _ (vals_at l k hlt)
   have d0:=(hbw.cell (by exact cell_lt c0)).trans c0
   have d1:=(hbw.cell (by exact cell_lt c1)).trans c1
   have hA:=(hb.block w.heap.size (by omega)).trans BB.out.2
   have e1:wr.cell? ⟨w.heap.size,1,none⟩=some (.slice (some ⟨b2,off2,none⟩) l.length cap2):=by rw[cell_of_cells hA];rfl
   have DS:Hid _:=take_succP l k hlt
   have htl:(l.take k).length<=k:=List.length_take_le _ _
   generalize l.take k=D at *
   have HR:Hid _:=room_of (n:=D.length) (bytes:=16) (by omega) (by decide)
   have hbs1:w.heap.size+1<=wr.heap.size:=by omega
   clear hk hv c0 c1 hA hbw
   go_wp2_with (at_builtin;refine app_one wr rfl _ _ 31 rfl (w.heap.size+1) 108 i0 _ 2 16 Tryz.underlying31 hi hz0 hz1 hz2 rfl (by decide) u3 _ _ rfl hown [.int .i64 (kOf l k), .int .i64 (vOf l k)] rfl rfl (two_one _ _) HR.out.1 HR.out.2 hbs1 ?_)
   intro v1 w1 ho1 _ hb1
   rw[flatP_snoc] at ho1
   have hb2:=hb.trans hb1
   clear d0 d1 hown hb hb1 hbs
   go_wp2
   go_roundw
   case rel=>exact⟨k+1,by omega,by go_num,by rw[DS.out,List.length_append];exact ho1,hb2⟩
   case measure=>simp[intOf];omega
  ·have hkk:k=l.length:=by omega
   subst hkk
   rw[List.take_of_length_le (Nat.le_refl _)] at hown
   have FIN:Hid _:=And.intro (owns_mono hown (show w.heap.size<=w.heap.size+1 by omega)) hbw
   clear hown hbw hb
   go_wp2
   go_ret
   exact⟨_,rfl,FIN.out.1,FIN.out.2⟩
end
section
open Go.RowKit

theorem allL_ok {l:PL} (h:MapP l) (ms:ML):allL l ms=(okMs ms).foldl doP l:=by
 induction ms generalizing l with
 |nil=>rfl
 |cons m ms ih=>
  have hM:mapOkB l=true:=(mapOkB_iff l).2 h
  obtain⟨o,k,v⟩:=m
  cases hq:msgOkB o k v
  ·rw[allL,List.foldl_cons,doL_bad (Or.inr hq),okMs,List.filter_cons_of_neg (by simp[okM,hq])]
   exact ih h
  ·rw[allL,List.foldl_cons,doL_ok hM hq,okMs,List.filter_cons_of_pos (by simp[okM,hq]),List.foldl_cons]
   exact ih (doP_mapP h hq)
theorem foldP_mapP {l:PL} (h:MapP l) (ms:ML) (hm:∀m∈ms,okM m=true):MapP (ms.foldl doP l):=by
 induction ms generalizing l with
 |nil=>exact h
 |cons m ms ih=>exact ih (doP_mapP h (hm m (by simp))) (fun q hq=>hm q (by simp[hq]))
theorem asc_length (l:PL) (h:Asc l) (a:Int) (ha:∀p∈l,a<=p.1/\p.1<=999) (ha2:a<=1000):(l.length:Int)<=1000-a:=by
 induction l generalizing a with
 |nil=>simp;omega
 |cons p l ih=>
  obtain⟨h1,h2⟩:=h.cons
  have hp:=ha p (by simp)
  have:=ih h2 (p.1+1) (fun q hq=>⟨by have:=h1 q hq;omega,(ha q (by simp[hq])).2⟩) (by omega)
  simp only[List.length_cons]
  omega
theorem mapP_length {l:PL} (h:MapP l):l.length<=1000:=by
 have:=asc_length l h.1 0 (fun p hp=>(h.2 p hp).1) (by omega)
 omega
theorem foldP_length (l:PL) (ms:ML):(ms.foldl doP l).length<=l.length+ms.length:=by
 induction ms generalizing l with
 |nil=>simp
 |cons m ms ih=>
  have h1:=ih (doP l m)
  have h2:=doP_length l m
  simp only[List.foldl_cons,List.length_cons] at *
  omega
theorem foldP_succ (l:PL) (ms:ML) (k:Nat) (h:k<ms.length):(ms.take (k+1)).foldl doP l=doP ((ms.take k).foldl doP l) (mO ms k,mK ms k,mV ms k):=by
 rw[take_succM ms k h,List.foldl_append];rfl

theorem SrtM.lt {w:World} {B:Nat} {F:Nat->Prop} {l:PL} (h:SrtM w B F l):B<w.heap.size:=by
 obtain⟨kv,vv,h1,_⟩:=h
 exact(Array.getElem?_eq_some_iff.1 h1).1

theorem implMapAll_any (va vm:Value) (l:PL) (ms:ML) (w:World) (h:Row w va l.length (flatP l)) (hm:Row w vm ms.length (flatM ms)) (hn:l.length+ms.length<=2097152) :
  Calls Tryz.prog 115 #[va,vm] w fun e w' =>∃v',e= .returned v' ∧w'.ownsRow w.heap.size 108 2 v' (allL l ms).length (flatP (allL l ms))/\Below w.heap.size w w' :=by
 have RW:Hid (Row w va l.length (flatP l)):=h
 have RM:Hid (Row w vm ms.length (flatM ms)):=hm
 clear h hm
 cases hM:mapOkB l
 ·obtain⟨i0,hi,hz0,hz1,hz2⟩:=info_parts Tryz.info108
  have HR:Hid _:=room_row (n:=l.length) (bytes:=16) (by omega) (by decide)
  have E:Hid (allL l ms=l):=allL_of_not hM ms
  go_enter Tryz.func115,Tryz.ntmps115
  go_wp2_with fail
  refine(implMapOk_any va l _ RW.out).mono ?_
  rw[hM]
  rintro e w1 ⟨rfl,b1⟩
  have B1s:=b1.size
  have RR:Hid (Row w1 va l.length (flatP l)):=RW.out.below b1
  clear hM
  go_wp2_with (at_builtin;refine app_row w1 rfl _ _ 31 rfl w.heap.size 108 i0 _ 2 16 Tryz.underlying31 hi hz0 hz1 hz2 rfl (by decide) (.slice none 0 0) 0 [] rfl (World.ownsRow_nil _ _ _ _) va l.length (flatP l) rfl RR.out (flatP_length _) (flatP_one _) HR.out.1 HR.out.2 B1s ?_)
  intro v' w2 ho2 _ hb2
  have B2:Below w.heap.size w w2:=b1.trans hb2
  clear hb2 b1
  go_wp2
  go_ret
  rw[E.out]
  exact⟨_,rfl,by simpa using ho2,B2⟩
 ·have hmp:MapP l:=(mapOkB_iff l).1 hM
  have E:Hid (allL l ms=(okMs ms).foldl doP l):=allL_ok hmp ms
  have HMP:Hid (MapP l):=hmp
  have hml:=mapP_length hmp
  have hol:=okMs_length ms
  have HOK:Hid (∀m∈okMs ms,okM m=true):=fun m hm=>(List.mem_filter.1 hm).2
  clear hmp
  go_enter Tryz.func115,Tryz.ntmps115
  go_wp2_with fail
  refine(implMapOk_any va l _ RW.out).mono ?_
  rw[hM]
  rintro e w1 ⟨rfl,b1⟩
  have B1:Hid (Below w.heap.size w w1):=b1
  clear hM b1
  go_wp2_with fail
  refine(sortedOf_any va l _ (RW.out.below B1.out) HMP.out.1 (by omega)).mono ?_
  rintro e w2 ⟨kv,vv,rfl,o1,o2,hd,b2⟩
  obtain⟨ka,kc,hkv⟩:=owns_val o1
  obtain⟨vva,vc,hvv⟩:=owns_val o2
  subst hkv
  subst hvv
  have B2:Below w.heap.size w w2:=Below.and B1.out b2
  have b3:Below w2.heap.size w2 (w2.alloc (.cells #[.slice ka l.length kc, .slice vva l.length vc] 190)):=(Below.refl _ _).alloc (Nat.le_refl _) _
  have SRT:SrtM (w2.alloc (.cells #[.slice ka l.length kc, .slice vva l.length vc] 190)) w2.heap.size (fun g=>g=w2.heap.size∨(Value.slice ka l.length kc).ownBlock=some g∨(Value.slice vva l.length vc).ownBlock=some g) l:=
   ⟨_,_,heap_alloc_new w2 _,by rw[keys_length];exact owns_below (owns_mono o1 (Nat.zero_le _)) b3,by rw[vals_length];exact owns_below (owns_mono o2 (Nat.zero_le _)) b3,hd,Or.inl rfl,fun g hg=>Or.inr (Or.inl hg),fun g hg=>Or.inr (Or.inr hg)⟩
  have hF0:∀g,(g=w2.heap.size∨(Value.slice ka l.length kc).ownBlock=some g∨(Value.slice vva l.length vc).ownBlock=some g)->w.heap.size<=g/\g<(w2.alloc (.cells #[.slice ka l.length kc, .slice vva l.length vc] 190)).heap.size:=by
   have hs:=B2.size
   have hs1:=B1.out.size
   rintro g (rfl|hg|hg)
   ·exact⟨by omega,by simp⟩
   ·have:=o1.lt g hg;exact⟨by omega,by simp;omega⟩
   ·have:=o2.lt g hg;exact⟨by omega,by simp;omega⟩
  have INFO:Hid _:=And.intro SRT (And.intro hF0 (And.intro b3 B2))
  clear SRT hF0 b3 B2 b2 hd o1 o2 B1
  go_wp2_with fail
  obtain⟨SRT,hF0,b3,B2⟩:=INFO.out
  refine(changesOf_any vm ms _ ((RM.out.below B2).below b3) (by omega)).mono ?_
  rintro e w4 ⟨cs,rfl,oc,b4⟩
  generalize hms:okMs ms=cm at *
  obtain⟨ca,cc,hcs⟩:=owns_val oc
  subst hcs
  have SRT4:=SRT.below b4
  have B4:Below w.heap.size w w4:=Below.and (Below.and B2 b3) b4
  have hcl:∀g,(Value.slice ca cm.length cc).ownBlock=some g->(w2.alloc (.cells #[.slice ka l.length kc, .slice vva l.length vc] 190)).heap.size<=g:=fun g hg=>(oc.lt g hg).1
  have hB2:w2.heap.size<w4.heap.size:=SRT4.lt
  have hcm:cc<=maxLen:=by
   obtain⟨_,⟨e,_⟩|⟨g,cap',cur,e,_,_,_,hc,_⟩⟩:=oc
   ·simp at e;rw[e.2.2];exact Nat.zero_le _
   ·simp at e;rw[e.2];exact hc
  have START:Hid _:=And.intro SRT4 (And.intro (fun g (hg:g=w2.heap.size∨(Value.slice ka l.length kc).ownBlock=some g∨(Value.slice vva l.length vc).ownBlock=some g)=>(hF0 g hg).1) (And.intro (fun g (hg:g=w2.heap.size∨(Value.slice ka l.length kc).ownBlock=some g∨(Value.slice vva l.length vc).ownBlock=some g) (hh:(Value.slice ca cm.length cc).ownBlock=some g)=>(show False by have h1:=(hF0 g hg).2;have h2:=hcl g hh;omega)) (And.intro (owns_mono (base' :=0) oc (Nat.zero_le _)) B4)))
  unfold maxLen at hcm
  clear SRT SRT4 hF0 b3 b4 B2 B4 oc hcl INFO RW RM hms
  go_wp2
  go_loopw [18] (fun i wr=>∃(k:Nat) (F:Nat->Prop),k<=cm.length/\i= .int .i64 k/\SrtM wr w2.heap.size F ((cm.take k).foldl doP l)/\(∀g,F g->w.heap.size<=g)/\(∀g,F g->(Value.slice ca cm.length cc).ownBlock=some g->False)/\wr.ownsRow 0 195 1 (.slice ca cm.length cc) cm.length (cm.map encC)/\Below w.heap.size w wr)
   (fun i _=>cm.length-(intOf i).toNat)
  case atStart=>exact⟨0,_,Nat.zero_le _,rfl,START.out.1,START.out.2.1,START.out.2.2.1,START.out.2.2.2.1,START.out.2.2.2.2⟩
  case round=>
   obtain⟨k,F,hkl,rfl,hsrt,hF,hFc,hoc,hb⟩:=hrel
   clear START
   by_cases hlt:k<cm.length
   ·have hex:∃g,ca=some ⟨g,0,none⟩:=by
     obtain⟨_,⟨e,e2⟩|⟨g,cap',cur,e,_⟩⟩:=hoc
     ·omega
     ·simp at e;exact⟨g,e.1⟩
    obtain⟨g,rfl⟩:=hex
    have hcell:wr.cell? ⟨g,k,none⟩=some (encC (mO cm k,mK cm k,mV cm k)):=by
     rw[hoc.cellAt k (by omega),List.getElem?_map,List.getElem?_eq_getElem hlt,ml_at cm k hlt];rfl
    obtain⟨tt,xx,hx⟩:=encC_iface (mO cm k,mK cm k,mV cm k)
    rw[hx] at hcell
    have hmk:msgOkB (mO cm k) (mK cm k) (mV cm k)=true:=by
     have:=HOK.out cm[k] (List.getElem_mem hlt)
     rw[ml_at cm k hlt] at this
     exact this
    have FSUC:Hid _:=foldP_succ l cm k hlt
    have hfl:=foldP_length l (cm.take k)
    have htl:(cm.take k).length<=k:=List.length_take_le _ _
    have MP:Hid _:=foldP_mapP HMP.out (cm.take k) (fun m hm=>HOK.out m (List.mem_of_mem_take hm))
    generalize (cm.take k).foldl doP l=A at *
    have hA:=mapP_length MP.out
    have TU:=turn_any w2.heap.size F A (mO cm k) (mK cm k) (mV cm k) wr hsrt MP.out hmk (by omega)
    rw[hx] at TU
    have TU' :Hid _:=(fun (_:Nat)=>TU)
    have INFO:Hid _:=And.intro hF (And.intro hFc (And.intro hoc hb))
    clear TU hF hFc hoc hb hsrt hmk hx
    go_wp2_with fail
    refine(TU'.out 0).mono ?_
    rintro e w5 ⟨rfl,F',h1,h2,h3⟩
    obtain⟨hF,hFc,hoc,hb⟩:=INFO.out
    have hwlt:∀g',(Value.slice (some ⟨g,0,none⟩) cm.length cc).ownBlock=some g' ->g' < wr.heap.size:=fun g' hg' =>(owns_lt hoc hg').1
    have hbs:=hb.size
    have FIN:Hid _:=And.intro h1 (And.intro (show ∀g',F' g' ->w.heap.size<=g' from fun g' hg' =>(h3 g' hg').elim (hF g') (fun hh=>by omega)) (And.intro (show ∀g',F' g' ->(Value.slice (some ⟨g,0,none⟩) cm.length cc).ownBlock=some g' ->False from fun g' hg' hh=>(h3 g' hg').elim (fun hh2=>hFc g' hh2 hh) (fun hh2=>by have:=hwlt g' hh;omega))
     (And.intro (owns_chg hoc h2 (fun g' hg' hh=>hFc g' hh hg')) (hb.trans (h2.below (fun g' _ hg' =>hF g' hg') hbs)))))
    clear h1 h2 h3 hF hFc hoc hb hwlt hbs INFO TU'
    go_wp2
    go_roundw
    case rel=>exact⟨k+1,F',by omega,by go_num,by rw[FSUC.out];exact FIN.out.1,FIN.out.2.1,FIN.out.2.2.1,FIN.out.2.2.2.1,FIN.out.2.2.2.2⟩
    case measure=>simp[intOf];omega
   ·have hkk:k=cm.length:=by omega
    subst hkk
    rw[List.take_of_length_le (Nat.le_refl _)] at hsrt
    have hfl:=foldP_length l cm
    rw[←E.out] at hsrt hfl
    obtain⟨kv',vv',h1,h2,h3,h4,h5,h6,h7⟩:=hsrt
    rw[keys_length] at h2
    rw[vals_length] at h3
    have R1:=Row.of_owns h2
    have R2:=Row.of_owns h3
    obtain⟨ka',kc',hkv'⟩:=owns_val h2
    obtain⟨va',vc',hvv'⟩:=owns_val h3
    have c0:wr.cell? ⟨w2.heap.size,0,none⟩=some kv' :=by rw[cell_of_cells h1];rfl
    have c1:wr.cell? ⟨w2.heap.size,1,none⟩=some vv' :=by rw[cell_of_cells h1];rfl
    rw[hkv'] at c0 R1
    rw[hvv'] at c1 R2
    have PO:Hid _:=(fun (_:Nat)=>pairsOf_any _ _ (allL l ms) wr R1 R2 (by omega))
    have hbh:Hid _:=hb
    clear h1 h2 h3 h4 h5 h6 h7 hkv' hvv' hF hFc hoc hb R1 R2
    go_wp2_with fail
    refine(PO.out 0).mono ?_
    rintro e w6 ⟨v6,rfl,o6,b6⟩
    go_wp2
    go_ret
    exact⟨_,rfl,owns_mono o6 hbh.out.size,Below.and hbh.out b6⟩
end
section
open Go.RowKit

theorem allL_succ (l:PL) (ms:ML) (k:Nat) (h:k<ms.length):allL l (ms.take (k+1))=doL (allL l (ms.take k)) (mO ms k,mK ms k,mV ms k):=by
 rw[take_succM ms k h,allL,List.foldl_append];rfl

theorem specMapAll_any (va vm:Value) (l:PL) (ms:ML) (w:World) (h:Row w va l.length (flatP l)) (hm:Row w vm ms.length (flatM ms)) (hn:l.length+ms.length<=2097152) :
  Calls Tryz.prog 100 #[va,vm] w fun e w' =>∃v',e= .returned v' ∧w'.ownsRow w.heap.size 108 2 v' (allL l ms).length (flatP (allL l ms))/\Below w.heap.size w w' :=by
 obtain⟨i0,hi,hz0,hz1,hz2⟩:=info_parts Tryz.info108
 have RW:Hid (Row w va l.length (flatP l)):=h
 have HR:Hid _:=room_row (n:=l.length) (bytes:=16) (by omega) (by decide)
 have Hb:Hid (w.heap.size<=(w.alloc (.cells #[] 108)).heap.size):=by show _<=_;simp
 obtain⟨a,b,off,cap,rfl,hcap,hmax,ha,ho,hk,hv⟩:=hm.msgs
 unfold maxLen at hmax
 clear h
 go_enter Tryz.func100,Tryz.ntmps100
 go_wp2_with (at_builtin;refine app_row (w.alloc (.cells #[] 108)) rfl _ _ 31 rfl w.heap.size 108 i0 _ 2 16 Tryz.underlying31 hi hz0 hz1 hz2 rfl (by decide) (.slice (some ⟨w.heap.size,0,none⟩) 0 0) 0 [] rfl (empty_own w w.heap.size 108 2 (Nat.le_refl _)) va l.length (flatP l) rfl (RW.out.below ((Below.refl _ _).alloc (Nat.le_refl _) _)) (flatP_length _) (flatP_one _) HR.out.1 HR.out.2 Hb.out ?_)
 intro v0 w0 ho0 _ hb0
 have B0:Below w.heap.size w w0:=((Below.refl _ _).alloc (Nat.le_refl _) _).trans hb0
 clear hb0
 go_wp2
 go_loopw [5,6] (fun out i wr=>∃k:Nat,k<=ms.length/\i= .int .i64 k/\wr.ownsRow w.heap.size 108 2 out (allL l (ms.take k)).length (flatP (allL l (ms.take k)))/\Below w.heap.size w wr)
  (fun _ i _=>ms.length-(intOf i).toNat)
 case atStart=>exact⟨0,Nat.zero_le _,rfl,ho0,B0⟩
 case round=>
  obtain⟨k,hkl,rfl,hown,hb⟩:=hrel
  by_cases hlt:k<ms.length
  ·have hal:=ha (by omega)
   subst hal
   have d0:=(hb.cell (by exact cell_lt (ho k hlt))).trans (ho k hlt)
   have d1:=(hb.cell (by exact cell_lt (hk k hlt))).trans (hk k hlt)
   have d2:=(hb.cell (by exact cell_lt (hv k hlt))).trans (hv k hlt)
   have DS:Hid _:=allL_succ l ms k hlt
   have hal:=allL_length l (ms.take k)
   have htl:(ms.take k).length<=k:=List.length_take_le _ _
   generalize hA:allL l (ms.take k)=A at *
   clear hA ho hk hv ho0 B0
   have OW:Hid _:=hown
   have RA:Hid (Row wr u5 A.length (flatP A)):=Row.of_owns hown
   clear hown
   go_wp2_with fail
   refine(specMapDo_any u5 A _ _ _ wr RA.out (by omega)).mono ?_
   rintro e w1 ⟨v1,rfl,o1,b1⟩
   go_wp2
   go_roundw
   case rel=>exact⟨k+1,by omega,by go_num,by rw[DS.out];exact owns_mono o1 hb.size,hb.trans (b1.mono hb.size)⟩
   case measure=>simp[intOf];omega
  ·go_wp2
   go_ret
   have hkk:k=ms.length:=by omega
   subst hkk
   rw[List.take_of_length_le (Nat.le_refl _)] at hown
   exact⟨_,rfl,hown,hb⟩
end
section
open Go.RowKit

def pendT (T:Tr) (k:Int):ML:=if okT T=true then pendF 7 T k else []
def getT (T:Tr) (k:Int):Int × Bool:=if okT T=true then getP (allL (leafF 7 T k).pairs (pendF 7 T k)) k else (0,false)
end
section
open Go.RowKit

def accF (m:Nat) (T:Tr) (j:Nat):PL:=T.pairs++((T.kids.take j).map (mapF m)).flatten
def MapIs (m:Nat):Prop:=∀(n:Nat) (x:TV) (T:Tr) (lo hi:Int) (w:World),TreeAt n w x T->depthF m T lo hi≠0→
 Calls Tryz.prog 123 #[x.val] w fun e w' =>∃v',e= .returned v' ∧w'.ownsRow w.heap.size 108 2 v' (mapF m T).length (flatP (mapF m T))/\Below w.heap.size w w'

def mapT (T:Tr):PL:=if okT T=true then mapF 7 T else []
def rangeT (T:Tr) (lo hi:Int):PL:=rangeL (mapT T) lo hi
theorem app_oneL {P:Program} {ops:Array Oper} {rest:List Oper} {o:Oper} {a:Act} {Q:Exit->Act->World->Prop} (W:World) (B:Nat) (hB:W.heap.size=B) (hgd:o.guard=none) (s x:Operand) (t:TypeId)
  (ho:o.op= .call { callee:= .builtin .append,args:= #[s,x],argTypes:= #[t,t] })
  (base:Nat) (e:TypeId) (i:TypeInfo) (z:Value) (size bytes:Nat) (ht:P.underlying t=some (.slice e)) (hi:P.info? e=some i) (hz:i.zero=some z)
  (hsize:i.size=size) (hby:i.bytes=bytes) (hzs:z.cells.size=size) (hsz:0<size)
  (v:Value) (n:Nat) (xs:List Value) (hs:a.eval s=v) (hown:W.ownsRow base e size v n xs)
  (news:List Value) (hx:a.eval x= .slice (some ⟨B,0,none⟩) 1 1) (hl:news.length=size) (h1:∀u∈news,u.oneCell' =true)
  (h63:n+1<=maxLen) (hbytes:(n+1)*bytes<=140737488355328) (hbase:base<=W.heap.size)
  (h:∀v' w',w'.ownsRow base e size v' (n+1) (xs++news)->Chg (fun g=>v.ownBlock=some g) W w' ->Below base W w' ->(∀g,v'.ownBlock=some g->v.ownBlock=some g∨g=B+1)->wpList P ops Q rest (a.put o.dst v') w') :
  wpList P ops Q (o::rest) a (W.alloc (.cells news.toArray e)):=by
 subst hB
 refine wpList_append_lies _ hgd s x t ho base e i z size bytes ht hi hz hsize hby hzs hsz v n xs hs (hown.alloc _) ⟨W.heap.size,0,none⟩ 1 1 news hx (by omega) ?_ h1 (by decide) h63 hbytes (by simp;omega) (W.heap.size+1) (by simp) ?_
 ·intro j u hj
  rw[Go.WideShapes.add_plain,Nat.zero_add,cell_of_cells (heap_alloc_new W _)]
  simpa using hj
 ·intro g cap w' h2 h3 h4 _
  have hc:Chg (fun g=>v.ownBlock=some g) W w' :=((Chg.refl _ _).alloc _).trans (chg_of_grown h3) (fun _ _ e=>e)
  refine h _ w' h2 hc (below_of_own hown hc hbase) (fun g' hg' => ?_)
  have:g=g' :=by simpa[Value.ownBlock] using hg'
  subst this
  exact h4
end
end Go.Proofs.YtcmofojechfccaaGreat
