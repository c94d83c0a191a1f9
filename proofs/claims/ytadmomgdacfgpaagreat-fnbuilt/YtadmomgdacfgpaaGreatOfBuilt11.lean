/-
  The contracts of the program's MapAll and MapDo.
  The contract of the model's MapAll.
  Contracts of chapter 3's Pending and TreeGet, of the model and of the program.
  Contracts of the model's TreeMap and TreeRange.
  What a tree tells key by key and range by range is its map.
-/
import Derived.Test.YtadmomgdacfgpaaGreatOfBuilt10
import Derived.Test.YtadmomgdacfgpaaGreatOfBuilt9
import Derived.Deep.LoopGhost
import Derived.Deep.RegionWith
import Derived.Test.YtadmomgdacfgpaaGreatOfBuilt8
namespace Go.Proofs.YtadmomgdacfgpaaGreat
set_option maxRecDepth 100000
set_option maxHeartbeats 8000000
section
open Go.RowKit

theorem Wq {l:PL} (h:CP l) (ms:ML):Cd l ms=(BP ms).foldl doP l:=by
 induction ms generalizing l with
 |nil=>rfl
 |cons m ms ih=>
  have hM:Bh l=true:=(Ex l).2 h
  obtain⟨o,k,v⟩:=m
  cases hq:AO o k v
  ·rw[Cd,List.foldl_cons,OY (Or.inr hq),BP,List.filter_cons_of_neg (by simp[okM,hq])]
   exact ih h
  ·rw[Cd,List.foldl_cons,V1 hM hq,BP,List.filter_cons_of_pos (by simp[okM,hq]),List.foldl_cons]
   exact ih (Lv h hq)
theorem Rr {l:PL} (h:CP l) (ms:ML) (hm:∀m∈ms,okM m=true):CP (ms.foldl doP l):=by
 induction ms generalizing l with
 |nil=>exact h
 |cons m ms ih=>exact ih (Lv h (hm m (by simp))) (fun q hq=>hm q (by simp[hq]))
theorem Q9 (l:PL) (h:Asc l) (a:Int) (ha:∀p∈l,a<=p.1/\p.1<=999) (ha2:a<=1000):(l.length:Int)<=1000-a:=by
 induction l generalizing a with
 |nil=>simp;omega
 |cons p l ih=>
  obtain⟨h1,h2⟩:=h.cons
  have hp:=ha p (by simp)
  have:=ih h2 (p.1+1) (fun q hq=>⟨by have:=h1 q hq;omega,(ha q (by simp[hq])).2⟩) (by omega)
  simp only[List.length_cons]
  omega
theorem Fx {l:PL} (h:CP l):l.length<=1000:=by
 have:=Q9 l h.1 0 (fun p hp=>(h.2 p hp).1) (by omega)
 omega
theorem Jt (l:PL) (ms:ML):(ms.foldl doP l).length<=l.length+ms.length:=by
 induction ms generalizing l with
 |nil=>simp
 |cons m ms ih=>
  have h1:=ih (doP l m)
  have h2:=Le l m
  simp only[List.foldl_cons,List.length_cons] at *
  omega
theorem RI (l:PL) (ms:ML) (k:Nat) (h:k<ms.length):(ms.take (k+1)).foldl doP l=doP ((ms.take k).foldl doP l) (mO ms k,mK ms k,mV ms k):=by
 rw[DA ms k h,List.foldl_append];rfl

theorem DJ.lt {w:World} {B:Nat} {F:Nat->Prop} {l:PL} (h:DJ w B F l):B<w.heap.size:=by
 obtain⟨kv,vv,h1,_⟩:=h
 exact(Array.getElem?_eq_some_iff.1 h1).1

theorem Gh (va vm:Value) (l:PL) (ms:ML) (w:World) (h:Row w va l.length (Ai l)) (hm:Row w vm ms.length (Af ms)) (hn:l.length+ms.length<=2097152) :
  Calls Tryz.prog 32 #[va,vm] w fun e w' =>∃v',e= .returned v' ∧w'.ownsRow w.heap.size 41 2 v' (Cd l ms).length (Ai (Cd l ms))/\Below w.heap.size w w' :=by
 have RW:Hid (Row w va l.length (Ai l)):=h
 have RM:Hid (Row w vm ms.length (Af ms)):=hm
 clear h hm
 cases hM:Bh l
 ·obtain⟨i0,hi,hz0,hz1,hz2⟩:=info_parts Tryz.info41
  have HR:Hid _:=Gi (n:=l.length) (bytes:=16) (by omega) (by decide)
  have E:Hid (Cd l ms=l):=Qk hM ms
  go_enter Tryz.func32,Tryz.ntmps32
  go_wp2_with fail;refine(Fk va l _ RW.out).mono ?_
  rw[hM]
  rintro e w1 ⟨rfl,b1⟩
  have B1s:=b1.size
  have RR:Hid (Row w1 va l.length (Ai l)):=RW.out.below b1
  clear hM;go_wp2_with (at_builtin;refine E6 w1 rfl _ _ 26 rfl w.heap.size 41 i0 _ 2 16 Tryz.underlying26 hi hz0 hz1 hz2 rfl (by decide) (.slice none 0 0) 0 [] rfl (World.ownsRow_nil _ _ _ _) va l.length (Ai l) rfl RR.out (BT _) (Dp _) HR.out.1 HR.out.2 B1s ?_)
  intro v' w2 ho2 _ hb2;have B2:Below w.heap.size w w2:=b1.trans hb2
  clear hb2 b1;go_wp2;go_ret;rw[E.out]
  exact⟨_,rfl,by simpa using ho2,B2⟩
 ·have hmp:CP l:=(Ex l).1 hM
  have E:Hid (Cd l ms=(BP ms).foldl doP l):=Wq hmp ms
  have HMP:Hid (CP l):=hmp
  have hml:=Fx hmp
  have hol:=Hy ms
  have HOK:Hid (∀m∈BP ms,okM m=true):=fun m hm=>(List.mem_filter.1 hm).2
  clear hmp;go_enter Tryz.func32,Tryz.ntmps32
  go_wp2_with fail;refine(Fk va l _ RW.out).mono ?_
  rw[hM]
  rintro e w1 ⟨rfl,b1⟩
  have B1:Hid (Below w.heap.size w w1):=b1
  clear hM b1;go_wp2_with fail;refine(Og va l _ (RW.out.below B1.out) HMP.out.1 (by omega)).mono ?_
  rintro e w2 ⟨kv,vv,rfl,o1,o2,hd,b2⟩
  obtain⟨ka,kc,hkv⟩:=Bt o1
  obtain⟨vva,vc,hvv⟩:=Bt o2
  subst hkv;subst hvv;have B2:Below w.heap.size w w2:=Below.and B1.out b2
  have b3:Below w2.heap.size w2 (w2.alloc (.cells #[.slice ka l.length kc, .slice vva l.length vc] 102)):=(Below.refl _ _).alloc (Nat.le_refl _) _
  have SRT:DJ (w2.alloc (.cells #[.slice ka l.length kc, .slice vva l.length vc] 102)) w2.heap.size (fun g=>g=w2.heap.size∨(Value.slice ka l.length kc).ownBlock=some g∨(Value.slice vva l.length vc).ownBlock=some g) l:=
   ⟨_,_,heap_alloc_new w2 _,by rw[Dc];exact AJ (AE o1 (Nat.zero_le _)) b3,by rw[EA];exact AJ (AE o2 (Nat.zero_le _)) b3,hd,Or.inl rfl,fun g hg=>Or.inr (Or.inl hg),fun g hg=>Or.inr (Or.inr hg)⟩
  have hF0:∀g,(g=w2.heap.size∨(Value.slice ka l.length kc).ownBlock=some g∨(Value.slice vva l.length vc).ownBlock=some g)->w.heap.size<=g/\g<(w2.alloc (.cells #[.slice ka l.length kc, .slice vva l.length vc] 102)).heap.size:=by
   have hs:=B2.size
   have hs1:=B1.out.size
   rintro g (rfl|hg|hg)
   ·exact⟨by omega,by simp⟩
   ·have:=o1.lt g hg;exact⟨by omega,by simp;omega⟩
   ·have:=o2.lt g hg;exact⟨by omega,by simp;omega⟩
  have INFO:Hid _:=And.intro SRT (And.intro hF0 (And.intro b3 B2))
  clear SRT hF0 b3 B2 b2 hd o1 o2 B1;go_wp2_with fail;obtain⟨SRT,hF0,b3,B2⟩:=INFO.out
  refine(Ir vm ms _ ((RM.out.below B2).below b3) (by omega)).mono ?_
  rintro e w4 ⟨cs,rfl,oc,b4⟩
  generalize hms:BP ms=cm at *
  obtain⟨ca,cc,hcs⟩:=Bt oc
  subst hcs;have SRT4:=SRT.below b4
  have B4:Below w.heap.size w w4:=Below.and (Below.and B2 b3) b4
  have hcl:∀g,(Value.slice ca cm.length cc).ownBlock=some g->(w2.alloc (.cells #[.slice ka l.length kc, .slice vva l.length vc] 102)).heap.size<=g:=fun g hg=>(oc.lt g hg).1
  have hB2:w2.heap.size<w4.heap.size:=SRT4.lt
  have hcm:cc<=maxLen:=by
   obtain⟨_,⟨e,_⟩|⟨g,cap',cur,e,_,_,_,hc,_⟩⟩:=oc
   ·simp at e;rw[e.2.2];exact Nat.zero_le _
   ·simp at e;rw[e.2];exact hc
  have START:Hid _:=And.intro SRT4 (And.intro (fun g (hg:g=w2.heap.size∨(Value.slice ka l.length kc).ownBlock=some g∨(Value.slice vva l.length vc).ownBlock=some g)=>(hF0 g hg).1) (And.intro (fun g (hg:g=w2.heap.size∨(Value.slice ka l.length kc).ownBlock=some g∨(Value.slice vva l.length vc).ownBlock=some g) (hh:(Value.slice ca cm.length cc).ownBlock=some g)=>(show False by have h1:=(hF0 g hg).2;have h2:=hcl g hh;omega)) (And.intro (AE (base' :=0) oc (Nat.zero_le _)) B4)))
  unfold maxLen at hcm;clear SRT SRT4 hF0 b3 b4 B2 B4 oc hcl INFO RW RM hms;go_wp2;go_loopw [18] (fun i wr=>∃(k:Nat) (F:Nat->Prop),k<=cm.length/\i= .int .i64 k/\DJ wr w2.heap.size F ((cm.take k).foldl doP l)/\(∀g,F g->w.heap.size<=g)/\(∀g,F g->(Value.slice ca cm.length cc).ownBlock=some g->False)/\wr.ownsRow 0 107 1 (.slice ca cm.length cc) cm.length (cm.map Cq)/\Below w.heap.size w wr)
   (fun i _=>cm.length-(intOf i).toNat)
  case atStart=>exact⟨0,_,Nat.zero_le _,rfl,START.out.1,START.out.2.1,START.out.2.2.1,START.out.2.2.2.1,START.out.2.2.2.2⟩
  case round=>
   obtain⟨k,F,hkl,rfl,hsrt,hF,hFc,hoc,hb⟩:=hrel
   clear START;by_cases hlt:k<cm.length
   ·have hex:∃g,ca=some ⟨g,0,none⟩:=by
     obtain⟨_,⟨e,e2⟩|⟨g,cap',cur,e,_⟩⟩:=hoc
     ·omega
     ·simp at e;exact⟨g,e.1⟩
    obtain⟨g,rfl⟩:=hex
    have hcell:wr.cell? ⟨g,k,none⟩=some (Cq (mO cm k,mK cm k,mV cm k)):=by
     rw[hoc.cellAt k (by omega),List.getElem?_map,List.getElem?_eq_getElem hlt,Ej cm k hlt];rfl
    obtain⟨tt,xx,hx⟩:=IF (mO cm k,mK cm k,mV cm k)
    rw[hx] at hcell
    have hmk:AO (mO cm k) (mK cm k) (mV cm k)=true:=by
     have:=HOK.out cm[k] (List.getElem_mem hlt)
     rw[Ej cm k hlt] at this
     exact this
    have FSUC:Hid _:=RI l cm k hlt
    have hfl:=Jt l (cm.take k)
    have htl:(cm.take k).length<=k:=List.length_take_le _ _
    have MP:Hid _:=Rr HMP.out (cm.take k) (fun m hm=>HOK.out m (List.mem_of_mem_take hm))
    generalize (cm.take k).foldl doP l=A at *
    have hA:=Fx MP.out
    have TU:=U5 w2.heap.size F A (mO cm k) (mK cm k) (mV cm k) wr hsrt MP.out hmk (by omega)
    rw[hx] at TU
    have TU' :Hid _:=(fun (_:Nat)=>TU)
    have INFO:Hid _:=And.intro hF (And.intro hFc (And.intro hoc hb))
    clear TU hF hFc hoc hb hsrt hmk hx;go_wp2_with fail;refine(TU'.out 0).mono ?_
    rintro e w5 ⟨rfl,F',h1,h2,h3⟩
    obtain⟨hF,hFc,hoc,hb⟩:=INFO.out
    have hwlt:∀g',(Value.slice (some ⟨g,0,none⟩) cm.length cc).ownBlock=some g' ->g' < wr.heap.size:=fun g' hg' =>(Ea hoc hg').1
    have hbs:=hb.size
    have FIN:Hid _:=And.intro h1 (And.intro (show ∀g',F' g' ->w.heap.size<=g' from fun g' hg' =>(h3 g' hg').elim (hF g') (fun hh=>by omega)) (And.intro (show ∀g',F' g' ->(Value.slice (some ⟨g,0,none⟩) cm.length cc).ownBlock=some g' ->False from fun g' hg' hh=>(h3 g' hg').elim (fun hh2=>hFc g' hh2 hh) (fun hh2=>by have:=hwlt g' hh;omega))
     (And.intro (AN hoc h2 (fun g' hg' hh=>hFc g' hh hg')) (hb.trans (h2.below (fun g' _ hg' =>hF g' hg') hbs)))))
    clear h1 h2 h3 hF hFc hoc hb hwlt hbs INFO TU';go_wp2;go_roundw
    case rel=>exact⟨k+1,F',by omega,by go_num,by rw[FSUC.out];exact FIN.out.1,FIN.out.2.1,FIN.out.2.2.1,FIN.out.2.2.2.1,FIN.out.2.2.2.2⟩
    case measure=>simp[intOf];omega
   ·have hkk:k=cm.length:=by omega
    subst hkk;rw[List.take_of_length_le (Nat.le_refl _)] at hsrt
    have hfl:=Jt l cm
    rw[←E.out] at hsrt hfl
    obtain⟨kv',vv',h1,h2,h3,h4,h5,h6,h7⟩:=hsrt
    rw[Dc] at h2
    rw[EA] at h3
    have R1:=Row.of_owns h2
    have R2:=Row.of_owns h3
    obtain⟨ka',kc',hkv'⟩:=Bt h2
    obtain⟨va',vc',hvv'⟩:=Bt h3
    have c0:wr.cell? ⟨w2.heap.size,0,none⟩=some kv' :=by rw[Ac h1];rfl
    have c1:wr.cell? ⟨w2.heap.size,1,none⟩=some vv' :=by rw[Ac h1];rfl
    rw[hkv'] at c0 R1
    rw[hvv'] at c1 R2
    have PO:Hid _:=(fun (_:Nat)=>Qi _ _ (Cd l ms) wr R1 R2 (by omega))
    have hbh:Hid _:=hb
    clear h1 h2 h3 h4 h5 h6 h7 hkv' hvv' hF hFc hoc hb R1 R2;go_wp2_with fail;refine(PO.out 0).mono ?_
    rintro e w6 ⟨v6,rfl,o6,b6⟩
    go_wp2;go_ret;exact⟨_,rfl,AE o6 hbh.out.size,Below.and hbh.out b6⟩
end
section
open Go.RowKit

theorem UC (l:PL) (ms:ML) (k:Nat) (h:k<ms.length):Cd l (ms.take (k+1))=doL (Cd l (ms.take k)) (mO ms k,mK ms k,mV ms k):=by
 rw[DA ms k h,Cd,List.foldl_append];rfl

theorem Hq (va vm:Value) (l:PL) (ms:ML) (w:World) (h:Row w va l.length (Ai l)) (hm:Row w vm ms.length (Af ms)) (hn:l.length+ms.length<=2097152) :
  Calls Tryz.prog 81 #[va,vm] w fun e w' =>∃v',e= .returned v' ∧w'.ownsRow w.heap.size 41 2 v' (Cd l ms).length (Ai (Cd l ms))/\Below w.heap.size w w' :=by
 obtain⟨i0,hi,hz0,hz1,hz2⟩:=info_parts Tryz.info41
 have RW:Hid (Row w va l.length (Ai l)):=h
 have HR:Hid _:=Gi (n:=l.length) (bytes:=16) (by omega) (by decide)
 have Hb:Hid (w.heap.size<=(w.alloc (.cells #[] 41)).heap.size):=by show _<=_;simp
 obtain⟨a,b,off,cap,rfl,hcap,hmax,ha,ho,hk,hv⟩:=hm.msgs
 unfold maxLen at hmax;clear h;go_enter Tryz.func81,Tryz.ntmps81
 go_wp2_with (at_builtin;refine E6 (w.alloc (.cells #[] 41)) rfl _ _ 26 rfl w.heap.size 41 i0 _ 2 16 Tryz.underlying26 hi hz0 hz1 hz2 rfl (by decide) (.slice (some ⟨w.heap.size,0,none⟩) 0 0) 0 [] rfl (CY w w.heap.size 41 2 (Nat.le_refl _)) va l.length (Ai l) rfl (RW.out.below ((Below.refl _ _).alloc (Nat.le_refl _) _)) (BT _) (Dp _) HR.out.1 HR.out.2 Hb.out ?_)
 intro v0 w0 ho0 _ hb0;have B0:Below w.heap.size w w0:=((Below.refl _ _).alloc (Nat.le_refl _) _).trans hb0
 clear hb0;go_wp2;go_loopw [5,6] (fun out i wr=>∃k:Nat,k<=ms.length/\i= .int .i64 k/\wr.ownsRow w.heap.size 41 2 out (Cd l (ms.take k)).length (Ai (Cd l (ms.take k)))/\Below w.heap.size w wr)
  (fun _ i _=>ms.length-(intOf i).toNat)
 case atStart=>exact⟨0,Nat.zero_le _,rfl,ho0,B0⟩
 case round=>
  obtain⟨k,hkl,rfl,hown,hb⟩:=hrel
  by_cases hlt:k<ms.length
  ·have hal:=ha (by omega)
   subst hal;have d0:=(hb.cell (by exact Aa (ho k hlt))).trans (ho k hlt)
   have d1:=(hb.cell (by exact Aa (hk k hlt))).trans (hk k hlt)
   have d2:=(hb.cell (by exact Aa (hv k hlt))).trans (hv k hlt)
   have DS:Hid _:=UC l ms k hlt
   have hal:=Fu l (ms.take k)
   have htl:(ms.take k).length<=k:=List.length_take_le _ _
   generalize hA:Cd l (ms.take k)=A at *
   clear hA ho hk hv ho0 B0;have OW:Hid _:=hown
   have RA:Hid (Row wr u5 A.length (Ai A)):=Row.of_owns hown
   clear hown;go_wp2_with fail;refine(MW u5 A _ _ _ wr RA.out (by omega)).mono ?_
   rintro e w1 ⟨v1,rfl,o1,b1⟩
   go_wp2;go_roundw
   case rel=>exact⟨k+1,by omega,by go_num,by rw[DS.out];exact AE o1 hb.size,hb.trans (b1.mono hb.size)⟩
   case measure=>simp[intOf];omega
  ·go_wp2;go_ret;have hkk:k=ms.length:=by omega
   subst hkk;rw[List.take_of_length_le (Nat.le_refl _)] at hown
   exact⟨_,rfl,hown,hb⟩
end
section
open Go.RowKit

def Xy (T:Tr) (k:Int):ML:=if okT T=true then Dq 7 T k else []
def Oj (T:Tr) (k:Int):Int × Bool:=if okT T=true then Ay (Cd (DO 7 T k).pairs (Dq 7 T k)) k else (0,false)

theorem Kz (n:Nat) (x:TV) (T:Tr) (x0:Int) (w:World) (ht:AA n w x T) :
  Calls Tryz.prog 19 #[x.val, .int .i64 x0] w fun e w' =>e= .returned (.tuple #[.int .i64 (Oj T x0).1, .bool (Oj T x0).2])/\Below w.heap.size w w' :=by
 have TT:Hid (AA n w x T):=ht
 clear ht;obtain⟨lf,p,c,k,b⟩:=x
 have B0:Hid _:=Fo w #[.bool lf,p,c,k,b]
 have S0:Hid (Ak _ w.heap.size _):=Ak.start w #[.bool lf,p,c,k,b]
 have HC:=DU n ⟨lf,p,c,k,b⟩ T _ (TT.out.below B0.out)
 have HC' :Hid _:=HC
 clear HC;have P1:Hid (okT T=true->Oj T x0=Ay (Cd (DO 7 T x0).pairs (Dq 7 T x0)) x0):=fun h=>by rw[Oj,if_pos h]
 have P2:Hid (okT T=false->Oj T x0=(0,false)):=fun h=>by rw[Oj,if_neg (by rw[h];simp)]
 show Calls Tryz.prog 19 #[.agg #[.bool lf,p,c,k,b], .int .i64 x0] w _
 cases hok:okT T
 ·rw[P2.out hok]
  rw[hok] at HC'
  clear P1 P2;go_enter Tryz.func19,Tryz.ntmps19
  go_wp2_with fail;refine Calls.mono HC'.out ?_
  rintro e w1 ⟨rfl,hb1⟩
  have B1:Hid (Below w.heap.size w w1):=Below.and B0.out hb1
  clear hb1 B0;go_wp2;go_ret2
  exact⟨rfl,B1.out⟩
 ·rw[P1.out hok]
  have HD:Hid (∀w1,Below w.heap.size w w1->Calls Tryz.prog 48 #[.agg #[.bool lf,p,c,k,b], .int .i64 x0] w1 fun e w' =>∃(y:TV) (v' :Value),e= .returned (.tuple #[y.val,v'])/\AA n w y (DO 7 T x0)/\w'.ownsRow w1.heap.size 35 3 v' (Dq 7 T x0).length (Af (Dq 7 T x0))/\Below w1.heap.size w1 w'):=
   fun w1 hb=>Xg n ⟨lf,p,c,k,b⟩ T 0 1000 x0 w w1 TT.out hb (C9 hok)
  have hpl:(Dq 7 T x0).length<=42:=Hc x0 (C9 hok)
  have hll:(DO 7 T x0).pairs.length<=4:=(LB x0 (C9 hok)).2.1
  rw[hok] at HC'
  clear P1 P2;generalize Dq 7 T x0=M at *
  generalize DO 7 T x0=LF at *
  generalize hA:Cd LF.pairs M=A
  have HA:Hid (Cd LF.pairs M=A):=hA
  clear hA;have hG:∃g,Ay A x0=g:=⟨_,rfl⟩
  obtain⟨⟨g1,g2⟩,hG⟩:=hG
  have HG:Hid (Ay A x0=(g1,g2)):=hG
  rw[hG]
  clear hG;go_enter Tryz.func19,Tryz.ntmps19
  go_wp2_with fail;refine Calls.mono HC'.out ?_
  rintro e w1 ⟨rfl,hb1⟩
  have B1:Hid (Below w.heap.size w w1):=Below.and B0.out hb1
  have k0:=(S0.out.step hb1).cells
  clear hb1 B0;go_wp2_with fail;refine Calls.mono (HD.out w1 B1.out) ?_
  rintro e w2 ⟨y,v2,rfl,ty,o2,hb2⟩
  have RP:Hid (Row w y.p LF.pairs.length (Ai LF.pairs)):=by
   cases n with
   |zero=>exact ty.elim
   |succ n=>exact ty.parts.2.1
  obtain⟨y1,y2,y3,y4,p1,p2,p3,p4,hy⟩:=ty.shape
  subst hy;simp only at RP
  have R2:Hid (Row w2 v2 M.length (Af M)):=Row.of_owns o2
  have B2:Hid (Below w.heap.size w w2):=Below.and B1.out hb2
  clear hb2 o2 k0 ty;generalize LF.leaf=yl at *
  generalize LF.cuts.length=l2 at *
  generalize LF.kids.length=l3 at *
  generalize LF.buf.length=l4 at *
  have BX:Hid (Below w2.heap.size w2 (w2.alloc (.cells #[.bool yl, .slice y1 LF.pairs.length p1, .slice y2 l2 p2, .slice y3 l3 p3, .slice y4 l4 p4] 30))):=(Below.refl _ _).alloc (Nat.le_refl _) _
  go_wp2_with fail;refine Calls.mono (Gh _ _ LF.pairs M _ (RP.out.below (Below.and B2.out BX.out)) (R2.out.below BX.out) (by omega)) ?_
  rintro e w3 ⟨v3,rfl,o3,hb3⟩
  have B3:Hid (Below w.heap.size w w3):=Below.and (Below.and B2.out BX.out) hb3
  rw[HA.out] at o3
  have R3:Row w3 v3 _ _:=Row.of_owns o3
  clear hb3 o3;go_wp2_with fail;refine Calls.mono (Hk _ A x0 _ R3) ?_
  rintro e w4 ⟨rfl,hb4⟩
  have B4:Hid (Below w.heap.size w w4):=Below.and B3.out hb4
  clear hb4 R3;rw[HG.out]
  go_wp2;go_ret2
  exact⟨rfl,B4.out⟩
end
section
open Go.RowKit

def IG (m:Nat) (T:Tr) (j:Nat):PL:=T.pairs++((T.kids.take j).map (Ew m)).flatten
theorem NP (m:Nat) (T:Tr) (j:Nat) (h:j<T.kids.length):IG m T (j+1)=IG m T j++Ew m (AQ T j):=by
 rw[IG,IG,List.take_succ_eq_append_getElem h,List.map_append,List.flatten_append, ← List.append_assoc]
 simp[AQ,List.getD,h]
theorem NA (m:Nat) (T:Tr):IG m T 0=T.pairs:=by simp[IG]
theorem Ty (m:Nat) (T:Tr):Cd (IG m T T.kids.length) T.buf=Ew (m+1) T:=by
 rw[IG,List.take_of_length_le (Nat.le_refl _),Ew]
theorem Ko {m:Nat} {T:Tr} {lo hi:Int} (h:AK (m+1) T lo hi≠0):∀j,j<=T.kids.length->(IG m T j).length<=4+1000*j
 |0,_=>by
  rw[NA]
  cases hl:T.leaf
  ·rw[(Be (A0 h hl).1).1];simp
  ·have:=(Cb (Bf h hl)).2.1
   omega
 |j+1,hj=>by
  have ih:=Ko h j (by omega)
  rw[NP m T j (by omega),List.length_append]
  cases hl:T.leaf
  ·have:=(GU ((A0 h hl).2 j (by omega))).1.length
   omega
  ·rw[(Cb (Bf h hl)).2.2.1] at hj
   simp at hj
theorem Wl {m:Nat} {T:Tr} {lo hi:Int} (h:AK (m+1) T lo hi≠0):T.kids.length<=4/\T.buf.length<=6/\T.pairs.length<=4:=by
 cases hl:T.leaf
 ·have:=Be (A0 h hl).1
  exact⟨this.2.1.2,this.2.2.2.1,by rw[this.1];simp⟩
 ·have:=Cb (Bf h hl)
  exact⟨by rw[this.2.2.1];simp,by rw[this.2.2.2.1];simp,this.2.1⟩
theorem Ny {m:Nat} {T:Tr} {lo hi:Int} (h:AK (m+1) T lo hi≠0) {j:Nat} (hj:j<T.kids.length):∃lo' hi',AK m (AQ T j) lo' hi' ≠0:=by
 cases hl:T.leaf
 ·exact⟨_,_,(A0 h hl).2 j hj⟩
 ·rw[(Cb (Bf h hl)).2.2.1] at hj
  simp at hj

def SG (m:Nat):Prop:=∀(n:Nat) (x:TV) (T:Tr) (lo hi:Int) (w:World),AA n w x T->AK m T lo hi≠0→
 Calls Tryz.prog 88 #[x.val] w fun e w' =>∃v',e= .returned v' ∧w'.ownsRow w.heap.size 41 2 v' (Ew m T).length (Ai (Ew m T))/\Below w.heap.size w w'

theorem WZ {m:Nat} (H:SG m):SG (m+1):=by
 intro n x T lo hi w ht hd
 cases n with
 |zero=>exact ht.elim
 |succ n=>
 obtain⟨_,hpr,_,hbuf,hkids⟩:=ht.parts
 obtain⟨a1,a2,a3,a4,q1,q2,q3,q4,hx⟩:=ht.shape
 subst hx;simp only at hpr hbuf hkids
 clear ht;obtain⟨i0,hi0,hz0,hz1,hz2⟩:=info_parts Tryz.info41
 obtain⟨hk4,hb6,hp4⟩:=Wl hd
 have E0:Hid (((w.alloc (.cells #[.bool T.leaf, .slice a1 T.pairs.length q1, .slice a2 T.cuts.length q2, .slice a3 T.kids.length q3, .slice a4 T.buf.length q4] 30)).alloc (.cells #[] 41)).ownsRow (w.heap.size+1) 41 2 (.slice (some ⟨w.heap.size+1,0,none⟩) 0 0) 0 []):=by
  have:=CY (w.alloc (.cells #[.bool T.leaf, .slice a1 T.pairs.length q1, .slice a2 T.cuts.length q2, .slice a3 T.kids.length q3, .slice a4 T.buf.length q4] 30)) (w.heap.size+1) 41 2 (by simp)
  rw[World.size_alloc] at this
  exact this
 have B0:Hid (Below w.heap.size w ((w.alloc (.cells #[.bool T.leaf, .slice a1 T.pairs.length q1, .slice a2 T.cuts.length q2, .slice a3 T.kids.length q3, .slice a4 T.buf.length q4] 30)).alloc (.cells #[] 41))):=((Below.refl _ _).alloc (Nat.le_refl _) _).alloc (by simp) _
 have S0:Hid (Ak ((w.alloc (.cells #[.bool T.leaf, .slice a1 T.pairs.length q1, .slice a2 T.cuts.length q2, .slice a3 T.kids.length q3, .slice a4 T.buf.length q4] 30)).alloc (.cells #[] 41)) w.heap.size #[.bool T.leaf, .slice a1 T.pairs.length q1, .slice a2 T.cuts.length q2, .slice a3 T.kids.length q3, .slice a4 T.buf.length q4]):=
  (Ak.start w _).step ((Below.refl _ _).alloc (Nat.le_refl _) _)
 have Z0:Hid (w.heap.size+1<=((w.alloc (.cells #[.bool T.leaf, .slice a1 T.pairs.length q1, .slice a2 T.cuts.length q2, .slice a3 T.kids.length q3, .slice a4 T.buf.length q4] 30)).alloc (.cells #[] 41)).heap.size):=by
  show _<=_
  simp
 have AS:Hid (∀j,j<T.kids.length->IG m T (j+1)=IG m T j++Ew m (AQ T j)):=fun j hj=>NP m T j hj
 have AZ:Hid (IG m T 0=T.pairs):=NA m T
 have AF:Hid (Cd (IG m T T.kids.length) T.buf=Ew (m+1) T):=Ty m T
 have AL:Hid (∀j,j<=T.kids.length->(IG m T j).length<=4004):=fun j hj=>by have:=Ko hd j hj;omega
 have ML1:Hid (∀j,j<T.kids.length->(Ew m (AQ T j)).length<=1000):=fun j hj=>by
  obtain⟨lo',hi',h⟩:=Ny hd hj
  exact(GU h).1.length
 have RP:Hid (Row w (.slice a1 T.pairs.length q1) T.pairs.length (Ai T.pairs)):=hpr
 have RB:Hid (Row w (.slice a4 T.buf.length q4) T.buf.length (Af T.buf)):=hbuf
 obtain⟨xs,hxl,hrow,hk⟩:=hkids
 obtain⟨a3',b3,off3,cap3,hv3,hcap3,hmax3,ha3,c0,c1,c2,c3,c4⟩:=hrow.trees
 simp only[Value.slice.injEq] at hv3
 obtain⟨rfl,_,rfl⟩:=hv3
 unfold maxLen at hmax3;have HP:Hid (∀j,j<T.kids.length->∀w1,Below w.heap.size w w1->Calls Tryz.prog 88 #[(Az xs j).val] w1 fun e w' =>∃v',e= .returned v' ∧w'.ownsRow w1.heap.size 41 2 v' (Ew m (AQ T j)).length (Ai (Ew m (AQ T j)))/\Below w1.heap.size w1 w'):=fun j hj w1 hb=>by
  obtain⟨lo',hi',h⟩:=Ny hd hj
  exact H n (Az xs j) (AQ T j) lo' hi' w1 ((hk j (by omega)).below hb) h
 rw[←AF.out]
 clear hpr hbuf hrow hd hk AF;rw[hxl] at *
 generalize hn3:T.kids.length=n3 at *
 generalize IG m T=fo at *
 generalize T.leaf=tl at *
 generalize T.cuts.length=n2 at *
 show Calls Tryz.prog 88 #[.agg #[.bool tl, .slice a1 T.pairs.length q1, .slice a2 n2 q2, .slice a3 n3 q3, .slice a4 T.buf.length q4]] w _
 have HR0:Hid (0+T.pairs.length<=maxLen/\(0+T.pairs.length)*16<=140737488355328):=⟨by unfold maxLen;omega,by omega⟩
 have H10:Hid (∀y∈Ai T.pairs,y.oneCell' =true):=Dp T.pairs
 have HL0:Hid ((Ai T.pairs).length=T.pairs.length*2):=BT _
 obtain⟨k0,k1,k2,k3,k4⟩:=AB S0.out
 have R0:Hid _:=RP.out.below B0.out
 go_enter Tryz.func88,Tryz.ntmps88
 go_wp2_with (at_builtin;refine E6 ((w.alloc (.cells #[.bool tl, .slice a1 T.pairs.length q1, .slice a2 n2 q2, .slice a3 n3 q3, .slice a4 T.buf.length q4] 30)).alloc (.cells #[] 41)) rfl _ _ 26 rfl (w.heap.size+1) 41 i0 _ 2 16 Tryz.underlying26 hi0 hz0 hz1 hz2 rfl (by decide) (.slice (some ⟨w.heap.size+1,0,none⟩) 0 0) 0 [] rfl E0.out (.slice a1 T.pairs.length q1) T.pairs.length (Ai T.pairs) rfl R0.out HL0.out H10.out HR0.out.1 HR0.out.2 Z0.out ?_)
 intro v1 w1 o1 _ b1;have O1:Hid (w1.ownsRow (w.heap.size+1) 41 2 v1 (fo 0).length (Ai (fo 0))):=by
  rw[AZ.out]
  exact o1
 have B1:Hid (Below w.heap.size w w1):=B0.out.trans (b1.mono (Nat.le_succ _))
 have S1:Hid (Ak w1 w.heap.size _):=S0.out.stepB b1 (Nat.lt_succ_self _)
 clear o1 b1 k0 k1 k2 k3 k4 E0 B0 S0 Z0 R0;go_wp2;go_loopw [3,4] (fun out i wr=>∃j:Nat,j<=n3/\i= .int .i64 j/\Hid (wr.ownsRow (w.heap.size+1) 41 2 out (fo j).length (Ai (fo j)))/\Hid (Ak wr w.heap.size #[.bool tl, .slice a1 T.pairs.length q1, .slice a2 n2 q2, .slice a3 n3 q3, .slice a4 T.buf.length q4])/\Hid (Below w.heap.size w wr))
  (fun _ i _=>n3-(intOf i).toNat)
 case atStart=>exact⟨0,Nat.zero_le _,rfl,O1,S1,B1⟩
 case round=>
  obtain⟨j,hj,rfl,ON,SN,BN⟩:=hrel
  clear O1 S1 B1;obtain⟨k0,k1,k2,k3,k4⟩:=AB SN.out
  by_cases hlt:j<n3
  ·have hal:=ha3 (by omega)
   subst hal;have d0:=Ab BN.out (Aa (c0 j hlt)) (c0 j hlt)
   have d1:=Ab BN.out (Aa (c1 j hlt)) (c1 j hlt)
   have d2:=Ab BN.out (Aa (c2 j hlt)) (c2 j hlt)
   have d3:=Ab BN.out (Aa (c3 j hlt)) (c3 j hlt)
   have d4:=Ab BN.out (Aa (c4 j hlt)) (c4 j hlt)
   have HC:Hid _:=HP.out j hlt wr BN.out
   have AS1:Hid _:=AS.out j hlt
   have hal1:=AL.out j hj
   have hml1:=ML1.out j hlt
   generalize hy:Az xs j=y at *
   obtain⟨yl,yp,yc,yk,yb⟩:=y
   simp only at d0 d1 d2 d3 d4
   generalize Ew m (AQ T j)=KM at *
   clear c0 c1 c2 c3 c4 HP hy;have HR:Hid ((fo j).length+KM.length<=maxLen/\((fo j).length+KM.length)*16<=140737488355328):=⟨by unfold maxLen;omega,by omega⟩
   have H1:Hid (∀y∈Ai KM,y.oneCell' =true):=Dp KM
   have HL:Hid ((Ai KM).length=KM.length*2):=BT _
   go_wp2_with fail;refine Calls.mono HC.out ?_
   rintro e w2 ⟨v2,rfl,o2,hb2⟩
   have O2:Hid (w2.ownsRow (w.heap.size+1) 41 2 u3 (fo j).length (Ai (fo j))):=AJ ON.out hb2
   have S2:Hid (Ak w2 w.heap.size _):=SN.out.step hb2
   have B2:Hid (Below w.heap.size w w2):=Below.and BN.out hb2
   have R2:Hid (Row w2 v2 KM.length (Ai KM)):=Row.of_owns o2
   have Z2:Hid (w.heap.size+1<=w2.heap.size):=(Array.getElem?_eq_some_iff.1 S2.out).1
   clear hb2 o2 d0 d1 d2 d3 d4 k0 k1 k2 k3 k4 ON SN BN HC;go_wp2_with (at_builtin;refine E6 w2 rfl _ _ 26 rfl (w.heap.size+1) 41 i0 _ 2 16 Tryz.underlying26 hi0 hz0 hz1 hz2 rfl (by decide) u3 _ _ rfl O2.out v2 KM.length (Ai KM) rfl R2.out HL.out H1.out HR.out.1 HR.out.2 Z2.out ?_)
   intro v3 w3 o3 _ b3';have FIN:Hid _:=And.intro o3 (And.intro (S2.out.stepB b3' (Nat.lt_succ_self _)) (B2.out.trans (b3'.mono (Nat.le_succ _))))
   clear o3 b3';go_wp2;go_roundw
   case rel=>exact⟨j+1,by omega,by go_num,by rw[AS1.out,FK,List.length_append];exact FIN.out.1,FIN.out.2.1,FIN.out.2.2⟩
   case measure=>simp[intOf];omega
  ·have hjj:j=n3:=by omega
   subst hjj;have hal1:=AL.out j (Nat.le_refl _)
   have RO:Hid (Row wr u3 (fo j).length (Ai (fo j))):=Row.of_owns ON.out
   clear c0 c1 c2 c3 c4 ha3 ON;go_wp2_with fail;refine Calls.mono (Hq _ _ (fo j) T.buf _ RO.out (RB.out.below BN.out) (by omega)) ?_
   rintro e w2 ⟨v2,rfl,o2,hb2⟩
   have FIN:Hid _:=And.intro (AE o2 BN.out.size) (Below.and BN.out hb2)
   clear o2 hb2 k0 k1 k2 k3 k4;go_wp2;go_ret;exact⟨_,rfl,FIN.out.1,FIN.out.2⟩

theorem Xc:SG 0:=fun _ _ _ _ _ _ _ h=>absurd rfl h
theorem Sl:∀m,SG m
 |0=>Xc
 |m+1=>WZ (Sl m)

def De (T:Tr):PL:=if okT T=true then Ew 7 T else []
theorem JU (T:Tr):CP (De T):=by
 unfold De;split
 ·exact(GU (C9 (by assumption))).1
 ·exact⟨by simp[Asc,Bk],fun p hp=>by simp at hp⟩
theorem Kf (T:Tr):(De T).length<=1000:=(JU T).length
def CG (T:Tr) (lo hi:Int):PL:=A8 (De T) lo hi
theorem KG (n:Nat) (x:TV) (T:Tr) (w:World) (ht:AA n w x T) (hsz:AU n T<=1099511627776) :
  Calls Tryz.prog 47 #[x.val] w fun e w' =>∃v',e= .returned v' ∧w'.ownsRow w.heap.size 41 2 v' (De T).length (Ai (De T))/\Below w.heap.size w w' :=by
 have TT:Hid (AA n w x T):=ht
 clear ht;obtain⟨lf,p,c,k,b⟩:=x
 have B0:Hid _:=Fo w #[.bool lf,p,c,k,b]
 have S0:Hid (Ak _ w.heap.size _):=Ak.start w #[.bool lf,p,c,k,b]
 have HC:=Gj n ⟨lf,p,c,k,b⟩ T _ (TT.out.below B0.out) hsz
 have HC' :Hid _:=HC
 clear HC;have P1:Hid (okT T=true->De T=Ew 7 T):=fun h=>by rw[De,if_pos h]
 have P2:Hid (okT T=false->De T=[]):=fun h=>by rw[De,if_neg (by rw[h];simp)]
 show Calls Tryz.prog 47 #[.agg #[.bool lf,p,c,k,b]] w _
 cases hok:okT T
 ·rw[P2.out hok]
  rw[hok] at HC'
  clear P1 P2;go_enter Tryz.func47,Tryz.ntmps47
  go_wp2_with fail;refine Calls.mono HC'.out ?_
  rintro e w1 ⟨rfl,hb1⟩
  have B1:Hid (Below w.heap.size w w1):=Below.and B0.out hb1
  clear hb1 B0;go_wp2;go_ret;exact⟨_,rfl,CY w1 w.heap.size 41 2 B1.out.size,B1.out.alloc B1.out.size _⟩
 ·rw[P1.out hok]
  have HD:Hid (∀w1,Below w.heap.size w w1->Calls Tryz.prog 88 #[.agg #[.bool lf,p,c,k,b]] w1 fun e w' =>∃v',e= .returned v' ∧w'.ownsRow w1.heap.size 41 2 v' (Ew 7 T).length (Ai (Ew 7 T))/\Below w1.heap.size w1 w'):=
   fun w1 hb=>Sl 7 n ⟨lf,p,c,k,b⟩ T 0 1000 w1 (TT.out.below hb) (C9 hok)
  rw[hok] at HC'
  clear P1 P2;generalize Ew 7 T=M at *
  go_enter Tryz.func47,Tryz.ntmps47
  go_wp2_with fail;refine Calls.mono HC'.out ?_
  rintro e w1 ⟨rfl,hb1⟩
  have B1:Hid (Below w.heap.size w w1):=Below.and B0.out hb1
  have k0:=(S0.out.step hb1).cells
  clear hb1 B0;go_wp2_with fail;refine Calls.mono (HD.out w1 B1.out) ?_
  rintro e w2 ⟨v2,rfl,o2,hb2⟩
  have FIN:Hid _:=And.intro (AE o2 B1.out.size) (Below.and B1.out hb2)
  clear hb2 o2 k0;go_wp2;go_ret;exact⟨_,rfl,FIN.out.1,FIN.out.2⟩

theorem QL {P:Program} {ops:Array Oper} {rest:List Oper} {o:Oper} {a:Act} {Q:Exit->Act->World->Prop} (W:World) (B:Nat) (hB:W.heap.size=B) (hgd:o.guard=none) (s x:Operand) (t:TypeId)
  (ho:o.op= .call { callee:= .builtin .append,args:= #[s,x],argTypes:= #[t,t] })
  (base:Nat) (e:TypeId) (i:TypeInfo) (z:Value) (size bytes:Nat) (ht:P.underlying t=some (.slice e)) (hi:P.info? e=some i) (hz:i.zero=some z)
  (hsize:i.size=size) (hby:i.bytes=bytes) (hzs:z.cells.size=size) (hsz:0<size)
  (v:Value) (n:Nat) (xs:List Value) (hs:a.eval s=v) (hown:W.ownsRow base e size v n xs)
  (news:List Value) (hx:a.eval x= .slice (some ⟨B,0,none⟩) 1 1) (hl:news.length=size) (h1:∀u∈news,u.oneCell' =true)
  (h63:n+1<=maxLen) (hbytes:(n+1)*bytes<=140737488355328) (hbase:base<=W.heap.size)
  (h:∀v' w',w'.ownsRow base e size v' (n+1) (xs++news)->Chg (fun g=>v.ownBlock=some g) W w' ->Below base W w' ->(∀g,v'.ownBlock=some g->v.ownBlock=some g∨g=B+1)->wpList P ops Q rest (a.put o.dst v') w') :
  wpList P ops Q (o::rest) a (W.alloc (.cells news.toArray e)):=by
 subst hB;refine wpList_append_lies _ hgd s x t ho base e i z size bytes ht hi hz hsize hby hzs hsz v n xs hs (hown.alloc _) ⟨W.heap.size,0,none⟩ 1 1 news hx (by omega) ?_ h1 (by decide) h63 hbytes (by simp;omega) (W.heap.size+1) (by simp) ?_
 ·intro j u hj;rw[Go.WideShapes.add_plain,Nat.zero_add,Ac (heap_alloc_new W _)]
  simpa using hj
 ·intro g cap w' h2 h3 h4 _;have hc:Chg (fun g=>v.ownBlock=some g) W w' :=((Chg.refl _ _).alloc _).trans (Df h3) (fun _ _ e=>e)
  refine h _ w' h2 hc (EZ hown hc hbase) (fun g' hg' => ?_)
  have:g=g' :=by simpa[Value.ownBlock] using hg'
  subst this;exact h4
end
section
open Go.RowKit

theorem W4 (T:Tr) (k:Int):Ay (De T) k=Oj T k:=by
 unfold De Oj;split
 ·rename_i h
  rw[(GU (C9 h)).2.2 k,Im (LB k (C9 h)).1,WQ (Nq 7 T k)]
  rfl
 ·rfl
theorem QM {l:PL} {lo mid:Int} (h:∀q∈l,mid<=q.1):A8 l lo mid=[]:=by
 unfold A8;rw[List.filter_eq_nil_iff]
 intro q hq;have:=h q hq
 simp
 omega
theorem Jm:∀ {l:PL} (_:Asc l) {lo mid hi:Int},lo<=mid->mid<=hi->A8 l lo mid++A8 l mid hi=A8 l lo hi
 |[],_,_,_,_,_,_=>rfl
 |p::l,h,lo,mid,hi,h1,h2=>by
  have ih:=Jm h.cons.2 h1 h2
  unfold A8 at ih ⊢
  rcases Int.lt_or_le p.1 mid with hp|hp
  ·have e2:decide (mid<=p.1/\p.1<hi)=false:=decide_eq_false (by omega)
   by_cases hl:lo<=p.1
   ·have e1:decide (lo<=p.1/\p.1<mid)=true:=decide_eq_true ⟨hl,hp⟩
    have e3:decide (lo<=p.1/\p.1<hi)=true:=decide_eq_true ⟨hl,by omega⟩
    rw[List.filter_cons,List.filter_cons,List.filter_cons,e1,e2,e3]
    simp only[if_true,List.cons_append]
    rw[←ih]
    rfl
   ·have e1:decide (lo<=p.1/\p.1<mid)=false:=decide_eq_false (fun h=>hl h.1)
    have e3:decide (lo<=p.1/\p.1<hi)=false:=decide_eq_false (fun h=>hl h.1)
    rw[List.filter_cons,List.filter_cons,List.filter_cons,e1,e2,e3]
    exact ih
  ·have hn:=QM (l:=p::l) (lo:=lo) (mid:=mid) (fun q hq=>by
    rcases List.mem_cons.1 hq with rfl|hq
    ·exact hp
    ·have:=h.cons.1 q hq;omega)
   unfold A8 at hn;rw[hn,List.nil_append]
   refine List.filter_congr fun q hq=> ?_
   have hq' :mid<=q.1:=by
    rcases List.mem_cons.1 hq with rfl|hq
    ·exact hp
    ·have:=h.cons.1 q hq;omega
   by_cases hh:q.1<hi
   ·rw[decide_eq_true (⟨hq',hh⟩:mid<=q.1/\q.1<hi),decide_eq_true (⟨by omega,hh⟩:lo<=q.1/\q.1<hi)]
   ·rw[decide_eq_false (fun k=>hh k.2),decide_eq_false (fun k=>hh k.2)]
theorem NQ (T:Tr):CG T 0 1000=De T:=by
 unfold CG A8;refine List.filter_eq_self.2 fun p hp=> ?_
 have:=((JU T).2 p hp).1
 simp
 omega
theorem Ke (T:Tr) {lo mid hi:Int} (h1:lo<=mid) (h2:mid<=hi):CG T lo mid++CG T mid hi=CG T lo hi:=Jm (JU T).1 h1 h2
end
end Go.Proofs.YtadmomgdacfgpaaGreat
