/-
  The contracts of the program's MapAll and MapDo.
  The contract of the model's MapAll.
  Contracts of chapter 3's Pending and TreeGet, of the model and of the program.
  Contracts of the model's TreeMap and TreeRange.
  Contracts of the model's l4At, l4Split.
-/
import Derived.Test.YtadmomgdacfgpaaGreatOfInjd11
import Derived.Deep.LoopGhost
import Derived.Deep.RegionWith
import Derived.Test.YtadmomgdacfgpaaGreatOfInjd8
import Derived.Test.YtadmomgdacfgpaaGreatOfInjd9
import Derived.Test.YtadmomgdacfgpaaGreatOfInjd10
namespace Go.Proofs.YtadmomgdacfgpaaGreat
set_option maxRecDepth 100000
set_option maxHeartbeats 8000000
section
open Go.RowKit

theorem VN {l:PL} (h:Cy l) (ms:ML):Cb l ms=(BG ms).foldl doP l:=by
 induction ms generalizing l with
 |nil=>rfl
 |cons m ms ih=>
  have hM:Bd l=true:=(Ef l).2 h
  obtain⟨o,k,v⟩:=m
  cases hq:AJ o k v
  ·rw[Cb,List.foldl_cons,NR (Or.inr hq),BG,List.filter_cons_of_neg (by simp[okM,hq])]
   exact ih h
  ·rw[Cb,List.foldl_cons,Uw hM hq,BG,List.filter_cons_of_pos (by simp[okM,hq]),List.foldl_cons]
   exact ih (Lf h hq)
theorem QJ {l:PL} (h:Cy l) (ms:ML) (hm:∀m∈ms,okM m=true):Cy (ms.foldl doP l):=by
 induction ms generalizing l with
 |nil=>exact h
 |cons m ms ih=>exact ih (Lf h (hm m (by simp))) (fun q hq=>hm q (by simp[hq]))
theorem QF (l:PL) (h:Asc l) (a:Int) (ha:∀p∈l,a<=p.1/\p.1<=999) (ha2:a<=1000):(l.length:Int)<=1000-a:=by
 induction l generalizing a with
 |nil=>simp;omega
 |cons p l ih=>
  obtain⟨h1,h2⟩:=h.cons
  have hp:=ha p (by simp)
  have:=ih h2 (p.1+1) (fun q hq=>⟨by have:=h1 q hq;omega,(ha q (by simp[hq])).2⟩) (by omega)
  simp only[List.length_cons]
  omega
theorem Fa {l:PL} (h:Cy l):l.length<=1000:=by
 have:=QF l h.1 0 (fun p hp=>(h.2 p hp).1) (by omega)
 omega
theorem IX (l:PL) (ms:ML):(ms.foldl doP l).length<=l.length+ms.length:=by
 induction ms generalizing l with
 |nil=>simp
 |cons m ms ih=>
  have h1:=ih (doP l m)
  have h2:=Kl l m
  simp only[List.foldl_cons,List.length_cons] at *
  omega
theorem Q6 (l:PL) (ms:ML) (k:Nat) (h:k<ms.length):(ms.take (k+1)).foldl doP l=doP ((ms.take k).foldl doP l) (mO ms k,mK ms k,mV ms k):=by
 rw[DA ms k h,List.foldl_append];rfl

theorem Dz.lt {w:World} {B:Nat} {F:Nat->Prop} {l:PL} (h:Dz w B F l):B<w.heap.size:=by
 obtain⟨kv,vv,h1,_⟩:=h
 exact(Array.getElem?_eq_some_iff.1 h1).1

theorem Fy (va vm:Value) (l:PL) (ms:ML) (w:World) (h:Row w va l.length (Aq l)) (hm:Row w vm ms.length (Af ms)) (hn:l.length+ms.length<=2097152) :
  Calls Tryz.prog 32 #[va,vm] w fun e w' =>∃v',e= .returned v' ∧w'.ownsRow w.heap.size 41 2 v' (Cb l ms).length (Aq (Cb l ms))/\Below w.heap.size w w' :=by
 have RW:Hid (Row w va l.length (Aq l)):=h
 have RM:Hid (Row w vm ms.length (Af ms)):=hm
 clear h hm
 cases hM:Bd l
 ·obtain⟨i0,hi,hz0,hz1,hz2⟩:=info_parts Tryz.info41
  have HR:Hid _:=Fu (n:=l.length) (bytes:=16) (by omega) (by decide)
  have E:Hid (Cb l ms=l):=OY hM ms
  go_enter Tryz.func32,Tryz.ntmps32
  go_wp2_with fail;refine(Gg va l _ RW.out).mono ?_
  rw[hM]
  rintro e w1 ⟨rfl,b1⟩
  have B1s:=b1.size
  have RR:Hid (Row w1 va l.length (Aq l)):=RW.out.below b1
  clear hM;go_wp2_with (at_builtin;refine Fj w1 rfl _ _ 26 rfl w.heap.size 41 i0 _ 2 16 Tryz.underlying26 hi hz0 hz1 hz2 rfl (by decide) (.slice none 0 0) 0 [] rfl (World.ownsRow_nil _ _ _ _) va l.length (Aq l) rfl RR.out (Cr _) (El _) HR.out.1 HR.out.2 B1s ?_)
  intro v' w2 ho2 _ hb2;have B2:Below w.heap.size w w2:=b1.trans hb2
  clear hb2 b1;go_wp2;go_ret;rw[E.out]
  exact⟨_,rfl,by simpa using ho2,B2⟩
 ·have hmp:Cy l:=(Ef l).1 hM
  have E:Hid (Cb l ms=(BG ms).foldl doP l):=VN hmp ms
  have HMP:Hid (Cy l):=hmp
  have hml:=Fa hmp
  have hol:=G5 ms
  have HOK:Hid (∀m∈BG ms,okM m=true):=fun m hm=>(List.mem_filter.1 hm).2
  clear hmp;go_enter Tryz.func32,Tryz.ntmps32
  go_wp2_with fail;refine(Gg va l _ RW.out).mono ?_
  rw[hM]
  rintro e w1 ⟨rfl,b1⟩
  have B1:Hid (Below w.heap.size w w1):=b1
  clear hM b1;go_wp2_with fail;refine(Oo va l _ (RW.out.below B1.out) HMP.out.1 (by omega)).mono ?_
  rintro e w2 ⟨kv,vv,rfl,o1,o2,hd,b2⟩
  obtain⟨ka,kc,hkv⟩:=Bk o1
  obtain⟨vva,vc,hvv⟩:=Bk o2
  subst hkv;subst hvv;have B2:Below w.heap.size w w2:=Below.and B1.out b2
  have b3:Below w2.heap.size w2 (w2.alloc (.cells #[.slice ka l.length kc, .slice vva l.length vc] 102)):=(Below.refl _ _).alloc (Nat.le_refl _) _
  have SRT:Dz (w2.alloc (.cells #[.slice ka l.length kc, .slice vva l.length vc] 102)) w2.heap.size (fun g=>g=w2.heap.size∨(Value.slice ka l.length kc).ownBlock=some g∨(Value.slice vva l.length vc).ownBlock=some g) l:=
   ⟨_,_,heap_alloc_new w2 _,by rw[CG];exact AF (AK o1 (Nat.zero_le _)) b3,by rw[Ej];exact AF (AK o2 (Nat.zero_le _)) b3,hd,Or.inl rfl,fun g hg=>Or.inr (Or.inl hg),fun g hg=>Or.inr (Or.inr hg)⟩
  have hF0:∀g,(g=w2.heap.size∨(Value.slice ka l.length kc).ownBlock=some g∨(Value.slice vva l.length vc).ownBlock=some g)->w.heap.size<=g/\g<(w2.alloc (.cells #[.slice ka l.length kc, .slice vva l.length vc] 102)).heap.size:=by
   have hs:=B2.size
   have hs1:=B1.out.size
   rintro g (rfl|hg|hg)
   ·exact⟨by omega,by simp⟩
   ·have:=o1.lt g hg;exact⟨by omega,by simp;omega⟩
   ·have:=o2.lt g hg;exact⟨by omega,by simp;omega⟩
  have INFO:Hid _:=And.intro SRT (And.intro hF0 (And.intro b3 B2))
  clear SRT hF0 b3 B2 b2 hd o1 o2 B1;go_wp2_with fail;obtain⟨SRT,hF0,b3,B2⟩:=INFO.out
  refine(H4 vm ms _ ((RM.out.below B2).below b3) (by omega)).mono ?_
  rintro e w4 ⟨cs,rfl,oc,b4⟩
  generalize hms:BG ms=cm at *
  obtain⟨ca,cc,hcs⟩:=Bk oc
  subst hcs;have SRT4:=SRT.below b4
  have B4:Below w.heap.size w w4:=Below.and (Below.and B2 b3) b4
  have hcl:∀g,(Value.slice ca cm.length cc).ownBlock=some g->(w2.alloc (.cells #[.slice ka l.length kc, .slice vva l.length vc] 102)).heap.size<=g:=fun g hg=>(oc.lt g hg).1
  have hB2:w2.heap.size<w4.heap.size:=SRT4.lt
  have hcm:cc<=maxLen:=by
   obtain⟨_,⟨e,_⟩|⟨g,cap',cur,e,_,_,_,hc,_⟩⟩:=oc
   ·simp at e;rw[e.2.2];exact Nat.zero_le _
   ·simp at e;rw[e.2];exact hc
  have START:Hid _:=And.intro SRT4 (And.intro (fun g (hg:g=w2.heap.size∨(Value.slice ka l.length kc).ownBlock=some g∨(Value.slice vva l.length vc).ownBlock=some g)=>(hF0 g hg).1) (And.intro (fun g (hg:g=w2.heap.size∨(Value.slice ka l.length kc).ownBlock=some g∨(Value.slice vva l.length vc).ownBlock=some g) (hh:(Value.slice ca cm.length cc).ownBlock=some g)=>(show False by have h1:=(hF0 g hg).2;have h2:=hcl g hh;omega)) (And.intro (AK (base' :=0) oc (Nat.zero_le _)) B4)))
  unfold maxLen at hcm;clear SRT SRT4 hF0 b3 b4 B2 B4 oc hcl INFO RW RM hms;go_wp2;go_loopw [18] (fun i wr=>∃(k:Nat) (F:Nat->Prop),k<=cm.length/\i= .int .i64 k/\Dz wr w2.heap.size F ((cm.take k).foldl doP l)/\(∀g,F g->w.heap.size<=g)/\(∀g,F g->(Value.slice ca cm.length cc).ownBlock=some g->False)/\wr.ownsRow 0 107 1 (.slice ca cm.length cc) cm.length (cm.map Cj)/\Below w.heap.size w wr)
   (fun i _=>cm.length-(intOf i).toNat)
  case atStart=>exact⟨0,_,Nat.zero_le _,rfl,START.out.1,START.out.2.1,START.out.2.2.1,START.out.2.2.2.1,START.out.2.2.2.2⟩
  case round=>
   obtain⟨k,F,hkl,rfl,hsrt,hF,hFc,hoc,hb⟩:=hrel
   clear START;by_cases hlt:k<cm.length
   ·have hex:∃g,ca=some ⟨g,0,none⟩:=by
     obtain⟨_,⟨e,e2⟩|⟨g,cap',cur,e,_⟩⟩:=hoc
     ·omega
     ·simp at e;exact⟨g,e.1⟩
    obtain⟨g,rfl⟩:=hex
    have hcell:wr.cell? ⟨g,k,none⟩=some (Cj (mO cm k,mK cm k,mV cm k)):=by
     rw[hoc.cellAt k (by omega),List.getElem?_map,List.getElem?_eq_getElem hlt,D7 cm k hlt];rfl
    obtain⟨tt,xx,hx⟩:=Ip (mO cm k,mK cm k,mV cm k)
    rw[hx] at hcell
    have hmk:AJ (mO cm k) (mK cm k) (mV cm k)=true:=by
     have:=HOK.out cm[k] (List.getElem_mem hlt)
     rw[D7 cm k hlt] at this
     exact this
    have FSUC:Hid _:=Q6 l cm k hlt
    have hfl:=IX l (cm.take k)
    have htl:(cm.take k).length<=k:=List.length_take_le _ _
    have MP:Hid _:=QJ HMP.out (cm.take k) (fun m hm=>HOK.out m (List.mem_of_mem_take hm))
    generalize (cm.take k).foldl doP l=A at *
    have hA:=Fa MP.out
    have TU:=Ut w2.heap.size F A (mO cm k) (mK cm k) (mV cm k) wr hsrt MP.out hmk (by omega)
    rw[hx] at TU
    have TU' :Hid _:=(fun (_:Nat)=>TU)
    have INFO:Hid _:=And.intro hF (And.intro hFc (And.intro hoc hb))
    clear TU hF hFc hoc hb hsrt hmk hx;go_wp2_with fail;refine(TU'.out 0).mono ?_
    rintro e w5 ⟨rfl,F',h1,h2,h3⟩
    obtain⟨hF,hFc,hoc,hb⟩:=INFO.out
    have hwlt:∀g',(Value.slice (some ⟨g,0,none⟩) cm.length cc).ownBlock=some g' ->g' < wr.heap.size:=fun g' hg' =>(DQ hoc hg').1
    have hbs:=hb.size
    have FIN:Hid _:=And.intro h1 (And.intro (show ∀g',F' g' ->w.heap.size<=g' from fun g' hg' =>(h3 g' hg').elim (hF g') (fun hh=>by omega)) (And.intro (show ∀g',F' g' ->(Value.slice (some ⟨g,0,none⟩) cm.length cc).ownBlock=some g' ->False from fun g' hg' hh=>(h3 g' hg').elim (fun hh2=>hFc g' hh2 hh) (fun hh2=>by have:=hwlt g' hh;omega))
     (And.intro (Az hoc h2 (fun g' hg' hh=>hFc g' hh hg')) (hb.trans (h2.below (fun g' _ hg' =>hF g' hg') hbs)))))
    clear h1 h2 h3 hF hFc hoc hb hwlt hbs INFO TU';go_wp2;go_roundw
    case rel=>exact⟨k+1,F',by omega,by go_num,by rw[FSUC.out];exact FIN.out.1,FIN.out.2.1,FIN.out.2.2.1,FIN.out.2.2.2.1,FIN.out.2.2.2.2⟩
    case measure=>simp[intOf];omega
   ·have hkk:k=cm.length:=by omega
    subst hkk;rw[List.take_of_length_le (Nat.le_refl _)] at hsrt
    have hfl:=IX l cm
    rw[←E.out] at hsrt hfl
    obtain⟨kv',vv',h1,h2,h3,h4,h5,h6,h7⟩:=hsrt
    rw[CG] at h2
    rw[Ej] at h3
    have R1:=Row.of_owns h2
    have R2:=Row.of_owns h3
    obtain⟨ka',kc',hkv'⟩:=Bk h2
    obtain⟨va',vc',hvv'⟩:=Bk h3
    have c0:wr.cell? ⟨w2.heap.size,0,none⟩=some kv' :=by rw[Ae h1];rfl
    have c1:wr.cell? ⟨w2.heap.size,1,none⟩=some vv' :=by rw[Ae h1];rfl
    rw[hkv'] at c0 R1
    rw[hvv'] at c1 R2
    have PO:Hid _:=(fun (_:Nat)=>Oz _ _ (Cb l ms) wr R1 R2 (by omega))
    have hbh:Hid _:=hb
    clear h1 h2 h3 h4 h5 h6 h7 hkv' hvv' hF hFc hoc hb R1 R2;go_wp2_with fail;refine(PO.out 0).mono ?_
    rintro e w6 ⟨v6,rfl,o6,b6⟩
    go_wp2;go_ret;exact⟨_,rfl,AK o6 hbh.out.size,Below.and hbh.out b6⟩
end
section
open Go.RowKit

theorem Su (l:PL) (ms:ML) (k:Nat) (h:k<ms.length):Cb l (ms.take (k+1))=doL (Cb l (ms.take k)) (mO ms k,mK ms k,mV ms k):=by
 rw[DA ms k h,Cb,List.foldl_append];rfl

theorem Kq (va vm:Value) (l:PL) (ms:ML) (w:World) (h:Row w va l.length (Aq l)) (hm:Row w vm ms.length (Af ms)) (hn:l.length+ms.length<=2097152) :
  Calls Tryz.prog 81 #[va,vm] w fun e w' =>∃v',e= .returned v' ∧w'.ownsRow w.heap.size 41 2 v' (Cb l ms).length (Aq (Cb l ms))/\Below w.heap.size w w' :=by
 obtain⟨i0,hi,hz0,hz1,hz2⟩:=info_parts Tryz.info41
 have RW:Hid (Row w va l.length (Aq l)):=h
 have HR:Hid _:=Fu (n:=l.length) (bytes:=16) (by omega) (by decide)
 have Hb:Hid (w.heap.size<=(w.alloc (.cells #[] 41)).heap.size):=by show _<=_;simp
 obtain⟨a,b,off,cap,rfl,hcap,hmax,ha,ho,hk,hv⟩:=hm.msgs
 unfold maxLen at hmax;clear h;go_enter Tryz.func81,Tryz.ntmps81
 go_wp2_with (at_builtin;refine Fj (w.alloc (.cells #[] 41)) rfl _ _ 26 rfl w.heap.size 41 i0 _ 2 16 Tryz.underlying26 hi hz0 hz1 hz2 rfl (by decide) (.slice (some ⟨w.heap.size,0,none⟩) 0 0) 0 [] rfl (De w w.heap.size 41 2 (Nat.le_refl _)) va l.length (Aq l) rfl (RW.out.below ((Below.refl _ _).alloc (Nat.le_refl _) _)) (Cr _) (El _) HR.out.1 HR.out.2 Hb.out ?_)
 intro v0 w0 ho0 _ hb0;have B0:Below w.heap.size w w0:=((Below.refl _ _).alloc (Nat.le_refl _) _).trans hb0
 clear hb0;go_wp2;go_loopw [5,6] (fun out i wr=>∃k:Nat,k<=ms.length/\i= .int .i64 k/\wr.ownsRow w.heap.size 41 2 out (Cb l (ms.take k)).length (Aq (Cb l (ms.take k)))/\Below w.heap.size w wr)
  (fun _ i _=>ms.length-(intOf i).toNat)
 case atStart=>exact⟨0,Nat.zero_le _,rfl,ho0,B0⟩
 case round=>
  obtain⟨k,hkl,rfl,hown,hb⟩:=hrel
  by_cases hlt:k<ms.length
  ·have hal:=ha (by omega)
   subst hal;have d0:=(hb.cell (by exact Aa (ho k hlt))).trans (ho k hlt)
   have d1:=(hb.cell (by exact Aa (hk k hlt))).trans (hk k hlt)
   have d2:=(hb.cell (by exact Aa (hv k hlt))).trans (hv k hlt)
   have DS:Hid _:=Su l ms k hlt
   have hal:=Fd l (ms.take k)
   have htl:(ms.take k).length<=k:=List.length_take_le _ _
   generalize hA:Cb l (ms.take k)=A at *
   clear hA ho hk hv ho0 B0;have OW:Hid _:=hown
   have RA:Hid (Row wr u5 A.length (Aq A)):=Row.of_owns hown
   clear hown;go_wp2_with fail;refine(Mg u5 A _ _ _ wr RA.out (by omega)).mono ?_
   rintro e w1 ⟨v1,rfl,o1,b1⟩
   go_wp2;go_roundw
   case rel=>exact⟨k+1,by omega,by go_num,by rw[DS.out];exact AK o1 hb.size,hb.trans (b1.mono hb.size)⟩
   case measure=>simp[intOf];omega
  ·go_wp2;go_ret;have hkk:k=ms.length:=by omega
   subst hkk;rw[List.take_of_length_le (Nat.le_refl _)] at hown
   exact⟨_,rfl,hown,hb⟩
end
section
open Go.RowKit

def WZ (T:Tr) (k:Int):ML:=if okT T=true then J3 7 T k else []
def Xa (T:Tr) (k:Int):Int × Bool:=if okT T=true then Aw (Cb (Mv 7 T k).pairs (J3 7 T k)) k else (0,false)
end
section
open Go.RowKit

def W9 (m:Nat) (T:Tr) (j:Nat):PL:=T.pairs++((T.kids.take j).map (GZ m)).flatten
def W4 (m:Nat):Prop:=∀(n:Nat) (x:TV) (T:Tr) (lo hi:Int) (w:World),AO n w x T->AE m T lo hi≠0→
 Calls Tryz.prog 88 #[x.val] w fun e w' =>∃v',e= .returned v' ∧w'.ownsRow w.heap.size 41 2 v' (GZ m T).length (Aq (GZ m T))/\Below w.heap.size w w'

def Dt (T:Tr):PL:=if okT T=true then GZ 7 T else []
theorem Ho (T:Tr):Cy (Dt T):=by
 unfold Dt;split
 ·exact(IL (Gp (by assumption))).1
 ·exact⟨by simp[Asc,Be],fun p hp=>by simp at hp⟩
theorem PW (T:Tr):(Dt T).length<=1000:=(Ho T).length
def WQ (T:Tr) (lo hi:Int):PL:=Wk (Dt T) lo hi
theorem OD {P:Program} {ops:Array Oper} {rest:List Oper} {o:Oper} {a:Act} {Q:Exit->Act->World->Prop} (W:World) (B:Nat) (hB:W.heap.size=B) (hgd:o.guard=none) (s x:Operand) (t:TypeId)
  (ho:o.op= .call { callee:= .builtin .append,args:= #[s,x],argTypes:= #[t,t] })
  (base:Nat) (e:TypeId) (i:TypeInfo) (z:Value) (size bytes:Nat) (ht:P.underlying t=some (.slice e)) (hi:P.info? e=some i) (hz:i.zero=some z)
  (hsize:i.size=size) (hby:i.bytes=bytes) (hzs:z.cells.size=size) (hsz:0<size)
  (v:Value) (n:Nat) (xs:List Value) (hs:a.eval s=v) (hown:W.ownsRow base e size v n xs)
  (news:List Value) (hx:a.eval x= .slice (some ⟨B,0,none⟩) 1 1) (hl:news.length=size) (h1:∀u∈news,u.oneCell' =true)
  (h63:n+1<=maxLen) (hbytes:(n+1)*bytes<=140737488355328) (hbase:base<=W.heap.size)
  (h:∀v' w',w'.ownsRow base e size v' (n+1) (xs++news)->Chg (fun g=>v.ownBlock=some g) W w' ->Below base W w' ->(∀g,v'.ownBlock=some g->v.ownBlock=some g∨g=B+1)->wpList P ops Q rest (a.put o.dst v') w') :
  wpList P ops Q (o::rest) a (W.alloc (.cells news.toArray e)):=by
 subst hB;refine wpList_append_lies _ hgd s x t ho base e i z size bytes ht hi hz hsize hby hzs hsz v n xs hs (hown.alloc _) ⟨W.heap.size,0,none⟩ 1 1 news hx (by omega) ?_ h1 (by decide) h63 hbytes (by simp;omega) (W.heap.size+1) (by simp) ?_
 ·intro j u hj;rw[Go.WideShapes.add_plain,Nat.zero_add,Ae (heap_alloc_new W _)]
  simpa using hj
 ·intro g cap w' h2 h3 h4 _;have hc:Chg (fun g=>v.ownBlock=some g) W w' :=((Chg.refl _ _).alloc _).trans (DV h3) (fun _ _ e=>e)
  refine h _ w' h2 hc (GR hown hc hbase) (fun g' hg' => ?_)
  have:g=g' :=by simpa[Value.ownBlock] using hg'
  subst this;exact h4
end
section
open Go.RowKit

def Ap (w:World) (B:Nat) (A:Array Value):Prop:=w.heap[B]? =some (.cells A 74 (0,0))
theorem Ap.start (w:World) (A:Array Value):Ap (w.alloc (.cells A 74)) w.heap.size A:=heap_alloc_new w _
theorem Ap.step {u w' :World} {B N:Nat} {A:Array Value} (h:Ap u B A) (hb:Below N u w') (hN:B<N):Ap w' B A:=(hb.block B hN).trans h
theorem Ap.lt {u:World} {B:Nat} {A:Array Value} (h:Ap u B A):B<u.heap.size:=(Array.getElem?_eq_some_iff.1 h).1
theorem Ap.cells {u:World} {B:Nat} {A:Array Value} (h:Ap u B A):∀j,u.cell? ⟨B,j,none⟩=A[j]? :=fun j=>cell_of_row u B j A 74 (0,0) h
theorem Ap.two {u:World} {B:Nat} {x0 x1:Value} (h:Ap u B #[x0,x1]):u.cell? ⟨B,0,none⟩=some x0/\u.cell? ⟨B,1,none⟩=some x1:=⟨by rw[h.cells];rfl,by rw[h.cells];rfl⟩
theorem Ap.free {u:World} {B:Nat} {x0 x1:Value} (h:Ap u B #[x0,x1]):u.frozen? ⟨B,0,none⟩=false/\u.frozen? ⟨B,1,none⟩=false:=⟨frozen_of_row u B 0 _ 74 h,frozen_of_row u B 1 _ 74 h⟩
theorem Ap.chg {w w' :World} {L:Nat} {A:Array Value} {p:Nat->Prop} (h:Ap w L A) (hc:Chg p w w') (hp:¬p L):Ap w' L A:=
 (hc.block L (Array.getElem?_eq_some_iff.1 h).1 hp).trans h
theorem Ap.alloc {w:World} {L:Nat} {A:Array Value} (h:Ap w L A) (o:Obj):Ap (w.alloc o) L A:=h.step ((Below.refl _ _).alloc (Nat.le_refl _) o) h.lt
theorem Pn (w:World) (A:Array Value):Below w.heap.size w (w.alloc (.cells A 74)):=(Below.refl _ _).alloc (Nat.le_refl _) _

theorem UN (vt vc:Value) (cs:List Int) (x0:Int) (w:World) (hc:Row w vc cs.length (Ad cs)) :
  Calls Tryz.prog 114 #[.agg #[vt,vc], .int .i64 x0] w fun e w' =>e= .returned (.int .i64 (AH cs x0:Nat))/\Below w.heap.size w w' :=by
 obtain⟨a2,b2,off2,q2,rfl,hcap2,hmax2,ha2,cc⟩:=hc.ints
 unfold maxLen at hmax2;clear hc;have PK:Hid (∀n,n<=cs.length->(∀i,i<n->iAt cs i<=x0)->(n<cs.length->¬iAt cs n<=x0)->AH cs x0=n):=fun n=>Qa
 generalize AH cs x0=R at *
 generalize hn2:cs.length=n2 at *
 have B0:Hid _:=Pn w #[vt, .slice a2 n2 q2]
 have S0:Hid (Ap _ w.heap.size _):=Ap.start w #[vt, .slice a2 n2 q2]
 go_enter Tryz.func114,Tryz.ntmps114
 go_wp2;go_loopw [5] (fun i wr=>∃k' :Nat,k' <=n2/\i= .int .i64 k' ∧wr=w.alloc (.cells #[vt, .slice a2 n2 q2] 74)/\Hid (∀i,i<k' ->iAt cs i<=x0))
  (fun i _=>n2-(intOf i).toNat)
 case atStart=>exact⟨0,Nat.zero_le _,rfl,rfl,fun i hi=>absurd hi (Nat.not_lt_zero _)⟩
 case round=>
  obtain⟨k',hkl,rfl,hwr,ALL⟩:=hrel
  have k0:=S0.out.two
  rw[←hwr] at k0
  obtain⟨k0,k1⟩:=k0
  by_cases hlt:k' < n2
  ·have hal:=ha2 (by omega)
   subst hal;have d0:=(B0.out.cell (by exact Aa (cc k' hlt))).trans (cc k' hlt)
   rw[←hwr] at d0
   have BW:Hid (Below w.heap.size w wr):=by rw[hwr];exact B0.out
   have WR:=hid (hwr)
   clear cc ha2 hwr S0 B0;by_cases hq:iAt cs k' <=x0
   ·have YS:=hid (hq)
    go_wp2;go_roundw
    case rel=>exact⟨k' +1,by omega,by go_num,WR.out,fun i hi=>if h:i<k' then ALL.out i h else by rw[show i=k' by omega];exact YS.out⟩
    case measure=>simp[intOf];omega
   ·have E:Hid (R=k'):=PK.out k' (by omega) ALL.out (fun _=>by omega)
    go_wp2;go_ret;exact⟨Bg (by rw[E.out]),BW.out⟩
  ·have E:Hid (R=k'):=PK.out k' (by omega) ALL.out (fun h=>absurd h hlt)
   have BW:Hid (Below w.heap.size w wr):=by rw[hwr];exact B0.out
   clear cc ha2 hwr S0 B0;go_wp2;go_ret;exact⟨Bg (by rw[E.out]),BW.out⟩

theorem Hd (a1:Option Addr) (n1 q1:Nat) (vc vb:Value) (cs:List Int) (buf:ML) (i:Nat) (w:World) (hc:Row w vc cs.length (Ad cs)) (hb:Row w vb buf.length (Af buf)) (hn:buf.length<=2097152) :
  Calls Tryz.prog 84 #[.agg #[.slice a1 n1 q1,vc],vb, .int .i64 (i:Nat)] w fun e w' =>∃v1 v2,e= .returned (.tuple #[v1,v2])/\w'.ownsRow w.heap.size 35 3 v1 (Ak cs i buf).length (Af (Ak cs i buf))/\w'.ownsRow w.heap.size 35 3 v2 (AW cs i buf).length (Af (AW cs i buf))/\Below w.heap.size w w' :=by
 have HC:Hid (∀(x0:Int) (w1:World),Below w.heap.size w w1->Calls Tryz.prog 114 #[.agg #[.slice a1 n1 q1,vc], .int .i64 x0] w1 fun e w' =>e= .returned (.int .i64 (AH cs x0:Nat))/\Below w1.heap.size w1 w'):=
  fun x0 w1 h=>UN _ vc cs x0 w1 (hc.below h)
 obtain⟨a2,b2,off2,q2,rfl,hcap2,hmax2,ha2,cc⟩:=hc.ints
 obtain⟨a4,b4,off4,q4,rfl,hcap4,hmax4,ha4,e0,e1,e2⟩:=hb.msgs
 obtain⟨i0,hi0,hz0,hz1,hz2⟩:=info_parts Tryz.info35
 unfold maxLen at hmax2 hmax4;clear hc hb cc ha2;have MS:=hid (fun j (hj:j<buf.length)=>Lx cs i buf j hj)
 have RS:Hid (∀j,j<buf.length->AW cs i (buf.take (j+1))=if AH cs (mK buf j)=i then AW cs i (buf.take j) else AW cs i (buf.take j)++[(mO buf j,mK buf j,mV buf j)]):=fun j hj=>KH cs i buf j hj
 have MF:Hid (Ak cs i (buf.take buf.length)=Ak cs i buf):=by show _=_;rw[List.take_of_length_le (Nat.le_refl _)]
 have RF:Hid (AW cs i (buf.take buf.length)=AW cs i buf):=by show _=_;rw[List.take_of_length_le (Nat.le_refl _)]
 have ML1:Hid (∀j,(Ak cs i (buf.take j)).length<=2097152):=fun j=>Nat.le_trans (Cq _ _ _) (Nat.le_trans (List.length_take_le' _ _) hn)
 have RL1:Hid (∀j,(AW cs i (buf.take j)).length<=2097152):=fun j=>Nat.le_trans (Iv _ _ _) (Nat.le_trans (List.length_take_le' _ _) hn)
 have M0:Hid (Ak cs i (buf.take 0)=[]):=rfl
 have R0:Hid (AW cs i (buf.take 0)=[]):=rfl
 generalize Ak cs i buf=MM at *
 generalize AW cs i buf=RR at *
 generalize hfm:(fun j=>Ak cs i (buf.take j))=fm at *
 generalize hfr:(fun j=>AW cs i (buf.take j))=fr at *
 have hfm' :∀j,Ak cs i (buf.take j)=fm j:=fun j=>by rw[←hfm]
 have hfr' :∀j,AW cs i (buf.take j)=fr j:=fun j=>by rw[←hfr]
 simp only[hfm',hfr'] at MS RS MF RF ML1 RL1 M0 R0
 clear hfm hfm' hfr hfr';generalize cs.length=n2 at *
 generalize hn4:buf.length=n4 at *
 have E1:Hid ((((w.alloc (.cells #[.slice a1 n1 q1, .slice a2 n2 q2] 74)).alloc (.cells #[] 35)).alloc (.cells #[] 35)).ownsRow (w.heap.size+1) 35 3 (.slice (some ⟨w.heap.size+1,0,none⟩) 0 0) 0 []):=by
  have:=De (w.alloc (.cells #[.slice a1 n1 q1, .slice a2 n2 q2] 74)) (w.heap.size+1) 35 3 (by simp)
  rw[World.size_alloc] at this
  exact this.alloc _
 have E2:Hid ((((w.alloc (.cells #[.slice a1 n1 q1, .slice a2 n2 q2] 74)).alloc (.cells #[] 35)).alloc (.cells #[] 35)).ownsRow (w.heap.size+1) 35 3 (.slice (some ⟨w.heap.size+1+1,0,none⟩) 0 0) 0 []):=by
  have:=De ((w.alloc (.cells #[.slice a1 n1 q1, .slice a2 n2 q2] 74)).alloc (.cells #[] 35)) (w.heap.size+1) 35 3 (by simp)
  rw[World.size_alloc,World.size_alloc] at this
  exact this
 have B0:Hid (Below w.heap.size w (((w.alloc (.cells #[.slice a1 n1 q1, .slice a2 n2 q2] 74)).alloc (.cells #[] 35)).alloc (.cells #[] 35))):=(((Below.refl _ _).alloc (Nat.le_refl _) _).alloc (by simp) _).alloc (by simp;omega) _
 have S0:Hid (Ap (((w.alloc (.cells #[.slice a1 n1 q1, .slice a2 n2 q2] 74)).alloc (.cells #[] 35)).alloc (.cells #[] 35)) w.heap.size #[.slice a1 n1 q1, .slice a2 n2 q2]):=((Ap.start w _).alloc _).alloc _
 have Z0:Hid (w.heap.size+1+1+1<=(((w.alloc (.cells #[.slice a1 n1 q1, .slice a2 n2 q2] 74)).alloc (.cells #[] 35)).alloc (.cells #[] 35)).heap.size):=by
  show _<=_
  simp
 go_enter Tryz.func84,Tryz.ntmps84
 go_wp2;go_loopw [8,9,10] (fun m r i wr=>∃j:Nat,j<=n4/\i= .int .i64 j/\Hid (wr.ownsRow (w.heap.size+1) 35 3 m (fm j).length (Af (fm j)))/\Hid (wr.ownsRow (w.heap.size+1) 35 3 r (fr j).length (Af (fr j)))/\Hid (∀g,m.ownBlock=some g->¬r.ownBlock=some g)/\Hid (Ap wr w.heap.size #[.slice a1 n1 q1, .slice a2 n2 q2])/\Hid (Below w.heap.size w wr)/\Hid (w.heap.size+1<=wr.heap.size))
  (fun _ _ i _=>n4-(intOf i).toNat)
 case atStart=>exact⟨0,Nat.zero_le _,rfl,by rw[M0.out];exact E1,by rw[R0.out];exact E2,fun g h1 h2=>by simp[Value.ownBlock] at h1 h2;omega,S0,B0,by have:=Z0.out;show _<=_;omega⟩
 case round=>
  obtain⟨j,hj,rfl,MN,RN,DN,SN,BN,ZN⟩:=hrel
  clear E1 E2 B0 S0 Z0;by_cases hlt:j<n4
  ·have hal:=ha4 (by omega)
   subst hal;have t0:=Ab BN.out (Aa (e0 j hlt)) (e0 j hlt)
   have t1:=Ab BN.out (Aa (e1 j hlt)) (e1 j hlt)
   have t2:=Ab BN.out (Aa (e2 j hlt)) (e2 j hlt)
   have MS1:Hid _:=MS.out j hlt
   have RS1:Hid _:=RS.out j hlt
   have HM:Hid _:=Bb (n:=(fm j).length) (bytes:=24) (Nat.le_trans (ML1.out j) (by decide)) (by decide)
   have HR:Hid _:=Bb (n:=(fr j).length) (bytes:=24) (Nat.le_trans (RL1.out j) (by decide)) (by decide)
   have H1:Hid _:=Jy (mO buf j) (mK buf j) (mV buf j)
   have HC1:Hid _:=HC.out (mK buf j)
   obtain⟨c0,c1⟩:=SN.out.two
   clear e0 e1 e2 ha4 HC MS RS;generalize mO buf j=x0 at *
   generalize mK buf j=x1 at *
   generalize mV buf j=x2 at *
   generalize AH cs x1=P at *
   have KEEP:Hid (∀w',Below wr.heap.size wr w' ->w'.cell? ⟨w.heap.size,0,none⟩=some (.slice a1 n1 q1)/\w'.cell? ⟨w.heap.size,1,none⟩=some (.slice a2 n2 q2)/\w'.cell? ⟨b4,off4+j*3,none⟩=some (.int .i64 x0)/\w'.cell? ⟨b4,off4+j*3+1,none⟩=some (.int .i64 x1)/\w'.cell? ⟨b4,off4+j*3+2,none⟩=some (.int .i64 x2)/\Hid (Below wr.heap.size wr w')):=
    fun w' hb=>⟨Ab hb (Aa c0) c0,Ab hb (Aa c1) c1,Ab hb (Aa t0) t0,Ab hb (Aa t1) t1,Ab hb (Aa t2) t2,hb⟩
   have S1:=KEEP.out wr.drew (Below.refl _ _).drew
   have T1:=KEEP.out wr (Below.refl _ _)
   clear c0 c1 t0 t1 t2;go_wp2_with fail;go_region_held3 (fun w' =>w'.cell? ⟨w.heap.size,0,none⟩=some (.slice a1 n1 q1)/\w'.cell? ⟨w.heap.size,1,none⟩=some (.slice a2 n2 q2)/\w'.cell? ⟨b4,off4+j*3,none⟩=some (.int .i64 x0)/\w'.cell? ⟨b4,off4+j*3+1,none⟩=some (.int .i64 x1)/\w'.cell? ⟨b4,off4+j*3+2,none⟩=some (.int .i64 x2)/\Hid (Below wr.heap.size wr w')) (assumption)
    (first
    |(go_at_call 114;refine(HC1.out _ (BN.out.trans (S1.2.2.2.2.2.out.mono BN.out.size))).mono ?_;rintro e w2 ⟨rfl,hb2⟩;have S2:=KEEP.out w2 (S1.2.2.2.2.2.out.trans (hb2.mono S1.2.2.2.2.2.out.size));clear hb2))
   clear S1 T1 HC1;obtain⟨g0,g1,g2,g3,g4,BB⟩:=S2
   have B2:=hid (BN.out.trans (BB.out.mono BN.out.size))
   have M2:=AF MN.out BB.out
   have R2:=AF RN.out BB.out
   have S2:=hid (SN.out.step BB.out (by have:=ZN.out;omega))
   have hz2' :w.heap.size+1<=w2.heap.size:=Nat.le_trans ZN.out BB.out.size
   have LM:=hid (fun g (hg:Value.ownBlock u8=some g)=>(M2.lt g hg).2)
   have LR:=hid (fun g (hg:Value.ownBlock u9=some g)=>(R2.lt g hg).2)
   have LM' :=hid (fun g (hg:Value.ownBlock u8=some g)=>(M2.lt g hg).1)
   have LR' :=hid (fun g (hg:Value.ownBlock u9=some g)=>(R2.lt g hg).1)
   clear MN RN BN SN BB KEEP ZN;by_cases hq:P=i
   ·have DM:=hid (MS1.out.trans (if_pos hq))
    have DR:=hid (RS1.out.trans (if_pos hq))
    have R2' :Hid _:=R2
    clear MS1 RS1 R2;subst hq;have e4:((P:Int)==(P:Int))=true:=by simp
    go_wp2_with (at_builtin;refine OD w2 w2.heap.size rfl rfl _ _ 24 rfl (w.heap.size+1) 35 i0 _ 3 24 Tryz.underlying24 hi0 hz0 hz1 hz2 rfl (by decide) u8 _ _ rfl M2 [.int .i64 x0, .int .i64 x1, .int .i64 x2] rfl rfl H1.out HM.out.1 HM.out.2 hz2' ?_)
    intro v5 w5 o5 c5 b5 l5;have FIN:Hid _:=And.intro o5 (And.intro (Az R2'.out c5 (fun g hg h=>DN.out g h hg)) (And.intro (show ∀g,v5.ownBlock=some g->¬Value.ownBlock u9=some g from fun g hg h9=>by
     rcases l5 g hg with h|h
     ·exact DN.out g h h9
     ·have:=LR.out g h9;omega) (And.intro (S2.out.chg c5 (fun h=>by have:=LM'.out _ h;omega)) (And.intro (B2.out.trans (b5.mono (Nat.le_succ _))) (Nat.le_trans hz2' b5.size)))))
    clear o5 b5 c5 l5 M2 g0 g1 g2 g3 g4;go_wp2;go_roundw
    case rel=>exact⟨j+1,by omega,by go_num,by rw[DM.out,BI,List.length_append];exact FIN.out.1,by rw[DR.out];exact FIN.out.2.1,FIN.out.2.2.1,FIN.out.2.2.2.1,FIN.out.2.2.2.2.1,FIN.out.2.2.2.2.2⟩
    case measure=>simp[intOf];omega
   ·have DM:=hid (MS1.out.trans (if_neg hq))
    have DR:=hid (RS1.out.trans (if_neg hq))
    have M2' :Hid _:=M2
    clear MS1 RS1 M2;have e4:((P:Int)==(i:Int))=false:=by rw[beq_eq_false_iff_ne];omega
    go_wp2_with (at_builtin;refine OD w2 w2.heap.size rfl rfl _ _ 24 rfl (w.heap.size+1) 35 i0 _ 3 24 Tryz.underlying24 hi0 hz0 hz1 hz2 rfl (by decide) u9 _ _ rfl R2 [.int .i64 x0, .int .i64 x1, .int .i64 x2] rfl rfl H1.out HR.out.1 HR.out.2 hz2' ?_)
    intro v5 w5 o5 c5 b5 l5;have FIN:Hid _:=And.intro o5 (And.intro (Az M2'.out c5 (fun g hg h=>DN.out g hg h)) (And.intro (show ∀g,Value.ownBlock u8=some g->¬v5.ownBlock=some g from fun g h8 hg=>by
     rcases l5 g hg with h|h
     ·exact DN.out g h8 h
     ·have:=LM.out g h8;omega) (And.intro (S2.out.chg c5 (fun h=>by have:=LR'.out _ h;omega)) (And.intro (B2.out.trans (b5.mono (Nat.le_succ _))) (Nat.le_trans hz2' b5.size)))))
    clear o5 b5 c5 l5 R2 g0 g1 g2 g3 g4;go_wp2;go_roundw
    case rel=>exact⟨j+1,by omega,by go_num,by rw[DM.out];exact FIN.out.2.1,by rw[DR.out,BI,List.length_append];exact FIN.out.1,FIN.out.2.2.1,FIN.out.2.2.2.1,FIN.out.2.2.2.2.1,FIN.out.2.2.2.2.2⟩
    case measure=>simp[intOf];omega
  ·have hjj:j=n4:=by omega
   subst hjj;clear e0 e1 e2 ha4;rw[MF.out] at MN
   rw[RF.out] at RN
   go_wp2;go_ret2
   exact⟨_,_,rfl,AK MN.out (Nat.le_succ _),AK RN.out (Nat.le_succ _),BN.out⟩
end
end Go.Proofs.YtadmomgdacfgpaaGreat
