/-
  The contract of the program's wayDown.
  The sorted map's drop, by a contract.
  The model's way of putting into a map, pair by pair, comes to the plain function.
  Contracts of the model's small functions on maps: clamp, without, put.
  Contracts of MapGet, the model's and the program's.
  Contracts of the model's MapDo and MapAll.
  Contracts of the program's sorted map as a map of pairs: put, drop, get, turned by a message, made of a list.
-/
import Derived.Test.YtnakaabnjelffaaGreatOfInject9
import Derived.Deep.DeepCutAuto
import Derived.Test.YtnakaabnjelffaaGreatOfInject2
import Derived.Test.YtnakaabnjelffaaGreatOfInject7
import Derived.Test.YtnakaabnjelffaaGreatOfInject1
import Derived.Test.YtnakaabnjelffaaGreatOfInject3
namespace Go.Proofs.YtnakaabnjelffaaGreat
set_option maxRecDepth 100000
set_option maxHeartbeats 8000000
section
open Go.RowKit

theorem Ao.chg {w w' :World} {L:Nat} {A:Array Value} {p:Nat->Prop} (h:Ao w L A) (hc:Chg p w w') (hp:¬p L):Ao w' L A:=
 (hc.block L (Array.getElem?_eq_some_iff.1 h).1 hp).trans h

theorem Eo {u:World} {B:Nat} {x0 x1 x2 x3 x4:Value} (h:Ao u B #[x0,x1,x2,x3,x4]) :
  (u.cell? ⟨B,0,none⟩=some x0/\u.cell? ⟨B,1,none⟩=some x1/\u.cell? ⟨B,2,none⟩=some x2/\u.cell? ⟨B,3,none⟩=some x3/\u.cell? ⟨B,4,none⟩=some x4)∧
  (u.frozen? ⟨B,0,none⟩=false/\u.frozen? ⟨B,1,none⟩=false/\u.frozen? ⟨B,2,none⟩=false/\u.frozen? ⟨B,3,none⟩=false/\u.frozen? ⟨B,4,none⟩=false):=
 ⟨Aw h,frozen_of_row u B 0 _ 29 h,frozen_of_row u B 1 _ 29 h,frozen_of_row u B 2 _ 29 h,frozen_of_row u B 3 _ 29 h,frozen_of_row u B 4 _ 29 h⟩

abbrev set5 (u:World) (L:Nat) (t0 t1 t2 t3 t4:Value):World:=((((u.setCell ⟨L,0,none⟩ t0).setCell ⟨L,1,none⟩ t1).setCell ⟨L,2,none⟩ t2).setCell ⟨L,3,none⟩ t3).setCell ⟨L,4,none⟩ t4
theorem Ao.set5 {u:World} {L:Nat} {x0 x1 x2 x3 x4:Value} (h:Ao u L #[x0,x1,x2,x3,x4]) (t0 t1 t2 t3 t4:Value):Ao (set5 u L t0 t1 t2 t3 t4) L #[t0,t1,t2,t3,t4]:=
 heap_setCell_same _ L 4 _ 29 t4 (heap_setCell_same _ L 3 _ 29 t3 (heap_setCell_same _ L 2 _ 29 t2 (heap_setCell_same _ L 1 _ 29 t1 (heap_setCell_same u L 0 _ 29 t0 h))))
theorem Ev (u:World) (L:Nat) (t0 t1 t2 t3 t4:Value):Chg (fun g=>g=L) u (set5 u L t0 t1 t2 t3 t4):=
 (((((Chg.refl (fun g=>g=L) u).setAt L 0 rfl t0).setAt L 1 rfl t1).setAt L 2 rfl t2).setAt L 3 rfl t3).setAt L 4 rfl t4
end
section
open Go.RowKit

theorem Vg (B:Nat) (F:Nat->Prop) (ks vs:List Int) (k:Int) (w:World) (h:Srt w B F ks vs) (hs:ks.Pairwise (· <= ·)) (hbig:ks.length<=1048576) (hf:ks.contains k=false) :
  Calls Tryz.prog 112 #[.pointer (some ⟨B,0,none⟩), .int .i64 k] w fun e w'=>
   e= .returned (.tuple #[])/\∃q,w' =w.drewN q:=by
 obtain⟨kv,vv,h1,h2,h3,h4,h5,h6,h7⟩:=h
 obtain⟨ka,kc,hkv⟩:=Bu h2
 have c0:w.cell? ⟨B,0,none⟩=some (.slice ka ks.length kc):=by rw[Af h1, ← hkv];rfl
 have SO:=Gh kv ks k w h2 hs (by omega)
 rw[hf,hkv] at SO
 have S2:Hid _:=(fun (_:Nat)=>SO)
 clear SO h1 h2 h3 h4 h5 h6 h7 hkv hs hf;generalize ks.countP (fun x=>decide (x<k))=p at *
 go_enter Tryz.func112,Tryz.ntmps112
 go_wp2_with fail;refine(S2.out 0).mono ?_
 rintro e w1 ⟨rfl,q,rfl⟩
 go_wp2;exact bodyPost_ret (v:= .tuple #[]) (by simp[results,Tryz.results112,go_sem]) rfl ⟨rfl,q,rfl⟩

theorem Sr (B:Nat) (F:Nat->Prop) (ks vs:List Int) (k:Int) (w:World) (h:Srt w B F ks vs) (hs:ks.Pairwise (· <= ·)) (hl:vs.length=ks.length) (hbig:ks.length<=1048576) (hf:ks.contains k=true) :
  Calls Tryz.prog 112 #[.pointer (some ⟨B,0,none⟩), .int .i64 k] w fun e w'=>
   e= .returned (.tuple #[])/\∃F',Srt w' B F' (ks.take (ks.countP (· < k))++ks.drop (ks.countP (· < k)+1)) (vs.take (ks.countP (· < k))++vs.drop (ks.countP (· < k)+1))/\Chg F w w' ∧(∀g,F' g->F g∨w.heap.size<=g):=by
 obtain⟨kv,vv,h1,h2,h3,h4,h5,h6,h7⟩:=h
 have HL:Hid (vs.length=ks.length):=hl
 clear hl;have hp:ks.countP (fun x=>decide (x<k))<ks.length:=Ni hf
 obtain⟨ka,kc,hkv⟩:=Bu h2
 obtain⟨va,vc,hvv⟩:=Bu h3
 have SO:=Gh kv ks k w h2 hs (by omega)
 rw[hf] at SO
 generalize ks.countP (fun x=>decide (x<k))=p at *
 have c0:w.cell? ⟨B,0,none⟩=some (.slice ka ks.length kc):=by rw[Af h1, ← hkv];rfl
 have S2:Hid _:=(fun (_:Nat)=>SO)
 clear SO;have INFO:Hid _:=And.intro h1 (And.intro h2 (And.intro h3 (And.intro h4 (And.intro h6 (And.intro h7 (And.intro hkv hvv))))))
 rw[hkv] at S2
 clear h1 h2 h3 h4 h6 h7 hkv hvv hs hf;go_enter Tryz.func112,Tryz.ntmps112
 go_wp2_with fail;refine(S2.out 0).mono ?_
 rintro e w1 ⟨rfl,q,rfl⟩
 go_wp2_with fail;obtain⟨h1,h2,h3,h4,h6,h7,hkv,hvv⟩:=INFO.out
 have b1:Below w.heap.size w (w.drewN q):=below_drewN (Below.refl _ _) q
 have INS:=L4 kv ks p (w.drewN q) (AJ h2 b1) hp
 rw[hkv,show((p+1:Nat):Int)=(p:Int)+1 from by omega] at INS
 refine INS.mono ?_
 rintro e w2 ⟨kv',rfl,o2,c2,b2⟩
 rw[←hkv] at c2 b2
 have C2:Chg (fun g=>kv.ownBlock=some g) w w2:=(Chg.of_below b1).trans c2 (fun _ _ e=>e)
 have hkB:¬kv.ownBlock=some B:=fun e=>by
  obtain⟨_,cur,hc⟩:=Eg h2 e
  rw[h1] at hc;simp at hc
 have hB2:=Bf h1 C2 hkB
 obtain⟨a2,q2,hv2⟩:=Bu o2
 have d0:w2.cell? ⟨B,0,none⟩=some (.slice ka ks.length kc):=by rw[Af hB2, ← hkv];rfl
 have d1:w2.cell? ⟨B,1,none⟩=some (.slice va vs.length vc):=by rw[Af hB2, ← hvv];rfl
 have f0:w2.frozen? ⟨B,0,none⟩=false:=AH hB2
 have f1:w2.frozen? ⟨B,1,none⟩=false:=AH hB2
 have hvk:∀g,vv.ownBlock=some g->¬kv.ownBlock=some g:=fun g hg hk=>h4 g hk hg
 have O3:w2.ownsRow 0 3 1 vv vs.length (vs.map (Value.int .i64)):=AQ h3 C2 hvk
 have hvB:vv.ownBlock≠some B:=fun e=>by
  obtain⟨_,cur,hc⟩:=Eg h3 e
  rw[h1] at hc;simp at hc
 have I2:Hid _:=And.intro hv2 (And.intro o2 (And.intro C2 (And.intro b2 (And.intro hB2 (And.intro O3 hvB)))))
 rw[hv2]
 clear hv2 o2 C2 b2 hB2 O3 hvB c2 INS b1 hkB hvk c0 h1 h2 h3 h4 h6 h7 hkv hvv;generalize ks.length-1=m at *
 go_wp2_with fail;obtain⟨hv2,o2,C2,b2,hB2,O3,hvB⟩:=I2.out
 obtain⟨h1,h2,h3,h4,h6,h7,hkv,hvv⟩:=INFO.out
 have cB:Chg (fun g=>g=B) w2 (w2.setCell ⟨B,0,none⟩ (.slice a2 m q2)):=Chg.setCell (F:=fun g=>g=B) (Chg.refl _ _) (fun _=>rfl) _
 have O4:(w2.setCell ⟨B,0,none⟩ (.slice a2 m q2)).ownsRow 0 3 1 vv vs.length (vs.map (Value.int .i64)):=AQ O3 cB (fun g hg e=>hvB (e ▸ hg))
 have INS:=L4 vv vs p _ O4 (by rw[HL.out];exact hp)
 rw[hvv,show((p+1:Nat):Int)=(p:Int)+1 from by omega] at INS
 refine INS.mono ?_
 rintro e w4 ⟨vv',rfl,o4,c4,b4⟩
 rw[←hvv] at c4 b4
 have C4:Chg (fun g=>vv.ownBlock=some g) (w2.setCell ⟨B,0,none⟩ kv') w4:=by rw[hv2];exact c4
 have hB3:(w2.setCell ⟨B,0,none⟩ kv').heap[B]? =some (.cells #[kv',vv] 114 (0,0)):=by
  rw[heap_setCell_same w2 B 0 _ 114 kv' hB2];rfl
 have hB4:=Bf hB3 C4 hvB
 obtain⟨a4,q4,hv4⟩:=Bu o4
 have e1:w4.cell? ⟨B,1,none⟩=some (.slice va vs.length vc):=by rw[Af hB4, ← hvv];rfl
 have g1:w4.frozen? ⟨B,1,none⟩=false:=AH hB4
 have hlenk:(ks.take p++ks.drop (p+1)).length=m:=by have:=o2.1;simp at this ⊢;omega
 have hlenv:(vs.take p++vs.drop (p+1)).length=vs.length-1:=by have:=HL.out;simp;omega
 rw[←hlenk] at o2
 rw[←hlenv] at o4
 have FIN:Hid _:=And.intro hv4 (Srt.ins (F:=F) h1 h3 h4 h5 h6 h7 o2 C2 (Or.inl b2) (Nat.le_refl _) hB2 o4 C4 (Or.inl b4) (Nat.le_refl _))
 rw[hv4]
 clear hv4 o4 C4 b4 hB4 hB3 c4 INS O4 cB h1 h2 h3 h4 h6 h7 hkv hvv hv2 o2 C2 b2 hB2 O3 hvB hlenk hlenv;generalize vs.length-1=m' at *
 go_wp2;obtain⟨hv4,F',r1,r2,r3⟩:=FIN.out
 rw[hv4] at r1 r2
 go_end0
 exact⟨rfl,F',r1,r2,r3⟩
end
section
def stp (k v:Int) (s:PL × Bool) (p:Int × Int):PL × Bool:=
 if s.2=false/\k<=p.1 then (if p.1=k then (s.1++[(k,v)],true) else (s.1++[(k,v)]++[p],true))
 else (if p.1=k then s else (s.1++[p],s.2))
def GW (k v:Int) (l:PL) (i:Nat):PL × Bool:=(l.take i).foldl (stp k v) ([],false)
def LX (k v:Int) (s:PL × Bool):PL:=if s.2=true then s.1 else s.1++[(k,v)]

theorem Sd (k v:Int) (l:PL) (i:Nat) (h:i<l.length):GW k v l (i+1)=stp k v (GW k v l i) (kOf l i,vOf l i):=by
 have e:(kOf l i,vOf l i)=l[i]:=by simp[kOf,vOf,List.getD,h]
 rw[GW,List.take_succ_eq_append_getElem h,List.foldl_append,e];rfl
theorem Sa (k v:Int) (s:PL × Bool) (p:Int × Int):(stp k v s p).1.length<=s.1.length+2:=by
 unfold stp;split<;>split<;>simp
theorem JZ (k v:Int) (l:PL) (i:Nat):(GW k v l i).1.length<=2*i:=by
 have h:∀(l:PL) (s:PL × Bool),(l.foldl (stp k v) s).1.length<=s.1.length+2*l.length:=by
  intro l;induction l with
  |nil=>intro s;simp
  |cons p l ih=>
   intro s;have h1:=ih (stp k v s p)
   have h2:=Sa k v s p
   rw[List.foldl_cons]
   simp only[List.length_cons]
   omega
 have:=h (l.take i) ([],false)
 have hl:(l.take i).length<=i:=List.length_take_le _ _
 unfold GW;simp only[List.length_nil] at this
 omega

theorem QY (k v:Int) (l:PL) (acc:PL):l.foldl (stp k v) (acc,true)=(acc++Dh l k,true):=by
 induction l generalizing acc with
 |nil=>simp[Dh]
 |cons p l ih=>
  rw[List.foldl_cons]
  by_cases h:p.1=k
  ·rw[show stp k v (acc,true) p=(acc,true) by simp[stp,h],ih,Dh,Dh,List.filter_cons_of_neg (by simp[h])]
  ·rw[show stp k v (acc,true) p=(acc++[p],true) by simp[stp,h],ih,Dh,Dh,List.filter_cons_of_pos (by simp[h])]
   simp
theorem XU {l:PL} (h:Asc l) (k v:Int) (acc:PL):LX k v (l.foldl (stp k v) (acc,false))=acc++B9 l k v:=by
 induction l generalizing acc with
 |nil=>simp[LX,B9]
 |cons p l ih=>
  obtain⟨h1,h2⟩:=h.cons
  rw[List.foldl_cons]
  by_cases hlt:p.1<k
  ·rw[show stp k v (acc,false) p=(acc++[p],false) by simp[stp,show ¬k<=p.1 by omega,show ¬p.1=k by omega],ih h2]
   have e:B9 (p::l) k v=p::B9 l k v:=by simp[B9,hlt,show ¬k<p.1 by omega]
   rw[e];simp
  ·by_cases he:p.1=k
   ·have hg:∀q∈l,k<q.1:=fun q hq=>by have:=h1 q hq;omega
    obtain⟨f1,f2,f3⟩:=Fq hg
    rw[show stp k v (acc,false) p=(acc++[(k,v)],true) by simp[stp,he],QY,Dh,f3]
    have e:B9 (p::l) k v=(k,v)::l:=by simp[B9,hlt,show ¬k<p.1 by omega,f1,f2]
    rw[e];simp[LX]
   ·have hg:∀q∈l,k<q.1:=fun q hq=>by have:=h1 q hq;omega
    obtain⟨f1,f2,f3⟩:=Fq hg
    rw[show stp k v (acc,false) p=(acc++[(k,v)]++[p],true) by simp[stp,show k<=p.1 by omega,he],QY,Dh,f3]
    have e:B9 (p::l) k v=(k,v)::p::l:=by simp[B9,hlt,show k<p.1 by omega,f1,f2]
    rw[e];simp[LX]
theorem Sf {l:PL} (h:Asc l) (k v:Int):LX k v (GW k v l l.length)=B9 l k v:=by
 have:=XU h k v []
 simpa[GW] using this

theorem Vd (l:PL) (k:Int) (i:Nat) (h:i<l.length):Dh (l.take (i+1)) k=if kOf l i=k then Dh (l.take i) k else Dh (l.take i) k++[(kOf l i,vOf l i)]:=by
 have e:(kOf l i,vOf l i)=l[i]:=by simp[kOf,vOf,List.getD,h]
 rw[List.take_succ_eq_append_getElem h,Dh,List.filter_append, ← e]
 by_cases hk:kOf l i=k
 ·simp[hk,Dh]
 ·simp[hk,Dh]
end
section
open Go.RowKit

theorem UM (a b:Int) (w:World):Calls Tryz.prog 124 #[.int .i64 a, .int .i64 b] w fun e w' =>e= .returned (.int .i64 (min a b))/\w' =w:=by
 by_cases h:a<b
 ·have E:Hid (min a b=a):=Int.min_eq_left (by omega)
  go_enter Tryz.func124,Tryz.ntmps124
  go_wp2;go_ret;exact⟨Bq E.out.symm,rfl⟩
 ·have E:Hid (min a b=b):=Int.min_eq_right (by omega)
  go_enter Tryz.func124,Tryz.ntmps124
  go_wp2;go_ret;exact⟨Bq E.out.symm,rfl⟩
theorem UD (a b:Int) (w:World):Calls Tryz.prog 123 #[.int .i64 a, .int .i64 b] w fun e w' =>e= .returned (.int .i64 (max a b))/\w' =w:=by
 by_cases h:b<a
 ·have E:Hid (max a b=a):=Int.max_eq_left (by omega)
  go_enter Tryz.func123,Tryz.ntmps123
  go_wp2;go_ret;exact⟨Bq E.out.symm,rfl⟩
 ·have E:Hid (max a b=b):=Int.max_eq_right (by omega)
  go_enter Tryz.func123,Tryz.ntmps123
  go_wp2;go_ret;exact⟨Bq E.out.symm,rfl⟩
theorem VQ (x:Int):max (min x 1000000000) (-1000000000)=Bg x:=by
 unfold Bg;split<;>(try split)<;>omega
theorem Lf (x:Int) (w:World):Calls Tryz.prog 99 #[.int .i64 x] w fun e w' =>e= .returned (.int .i64 (Bg x))/\w' =w:=by
 have E:Hid (max (min x 1000000000) (-1000000000)=Bg x):=VQ x
 go_enter Tryz.func99,Tryz.ntmps99
 go_wp2_with fail;refine(UM _ _ _).mono ?_
 rintro e w' ⟨rfl,rfl⟩
 generalize hm:min x 1000000000=m at *
 clear hm;go_wp2_with fail;refine(UD _ _ _).mono ?_
 rintro e w' ⟨rfl,rfl⟩
 rw[E.out]
 go_wp2;go_ret;exact⟨rfl,rfl⟩

theorem Ny (v:Value) (l:PL) (x:Int) (w:World) (h:Row w v l.length (Au l)) (hn:l.length<=4194304) :
  Calls Tryz.prog 122 #[v, .int .i64 x] w fun e w' =>∃v',e= .returned v' ∧w'.ownsRow w.heap.size 63 2 v' (Dh l x).length (Au (Dh l x))/\Below w.heap.size w w' :=by
 obtain⟨a,b,off,cap,rfl,hcap,hmax,ha,hk,hv⟩:=h.pairs
 obtain⟨i0,hi,hz0,hz1,hz2⟩:=info_parts Tryz.info63
 unfold maxLen at hmax;go_enter Tryz.func122,Tryz.ntmps122
 go_wp2;go_loopw [5,6] (fun out i wr=>∃k:Nat,k<=l.length/\i= .int .i64 k/\wr.ownsRow w.heap.size 63 2 out (Dh (l.take k) x).length (Au (Dh (l.take k) x))/\Below w.heap.size w wr)
  (fun _ i _=>l.length-(intOf i).toNat)
 case atStart=>exact⟨0,Nat.zero_le _,rfl,Ec w _ 63 2 (Nat.le_refl _),(Below.refl _ _).alloc (Nat.le_refl _) _⟩
 case round=>
  obtain⟨k,hkl,rfl,hown,hb⟩:=hrel
  by_cases hlt:k<l.length
  ·have hal:=ha (by omega)
   subst hal;have d0:=(hb.cell (by exact Aa (hk k hlt))).trans (hk k hlt)
   have d1:=(hb.cell (by exact Aa (hv k hlt))).trans (hv k hlt)
   have hds:=Vd l x k hlt
   have hdl:(Dh (l.take k) x).length<=k:=Nat.le_trans (KV _ _) (List.length_take_le _ _)
   by_cases hx:kOf l k=x
   ·have hq:(kOf l k != x)=false:=by simpa using hx
    rw[if_pos hx] at hds
    have DS:Hid _:=hds
    have OW:Hid _:=hown
    clear hk hv hx hds hown h;go_wp2;go_roundw
    case rel=>exact⟨k+1,by omega,by go_num,by rw[DS.out];exact OW.out,hb⟩
    case measure=>simp[intOf];omega
   ·have hq:(kOf l k != x)=true:=by simpa using hx
    rw[if_neg hx] at hds
    have DS:Hid _:=hds
    generalize Dh (l.take k) x=D at *
    have hbs:=hb.size
    clear hk hv hx hds h;have hrm:=Bl (n:=D.length) (bytes:=16) (by omega) (by decide)
    have HR:Hid _:=hrm
    clear hrm;go_wp2_with (at_builtin;refine BI wr rfl _ _ 24 rfl w.heap.size 63 i0 _ 2 16 Tryz.underlying24 hi hz0 hz1 hz2 rfl (by decide) u5 _ _ rfl hown [.int .i64 (kOf l k), .int .i64 (vOf l k)] rfl rfl (F5 _ _) HR.out.1 HR.out.2 hbs ?_)
    intro v' w1 ho1 _ hb1;rw[DT] at ho1
    have hb2:=hb.trans hb1
    clear hown hb hb1;go_wp2;go_roundw
    case rel=>exact⟨k+1,by omega,by go_num,by rw[DS.out,List.length_append];exact ho1,hb2⟩
    case measure=>simp[intOf];omega
  ·go_wp2;go_ret;have hkk:k=l.length:=by omega
   subst hkk;rw[List.take_of_length_le (Nat.le_refl _)] at hown
   exact⟨_,rfl,hown,hb⟩

theorem UE {k v:Int} {s:PL × Bool} {p:Int × Int} :
  (s.2=false->k<p.1->stp k v s p=(s.1++[(k,v)]++[p],true))/\(s.2=false->p.1=k->stp k v s p=(s.1++[(k,v)],true))/\(s.2=false->p.1<k->stp k v s p=(s.1++[p],false))∧
  (s.2=true->p.1≠k->stp k v s p=(s.1++[p],true))/\(s.2=true->p.1=k->stp k v s p=(s.1,true)):=by
 obtain⟨a,b⟩:=s
 refine⟨fun h1 h2=> ?_,fun h1 h2=> ?_,fun h1 h2=> ?_,fun h1 h2=> ?_,fun h1 h2=> ?_⟩<;>simp only at h1<;>subst h1
 ·simp[stp,show k<=p.1 by omega,show ¬p.1=k by omega]
 ·simp[stp,h2]
 ·simp[stp,show ¬k<=p.1 by omega,show ¬p.1=k by omega]
 ·simp[stp,h2]
 ·simp[stp,h2]

theorem On (v:Value) (l:PL) (x y:Int) (w:World) (h:Row w v l.length (Au l)) (hn:l.length<=2097152) (hasc:Asc l) :
  Calls Tryz.prog 121 #[v, .int .i64 x, .int .i64 y] w fun e w' =>∃v',e= .returned v' ∧w'.ownsRow w.heap.size 63 2 v' (B9 l x y).length (Au (B9 l x y))/\Below w.heap.size w w' :=by
 obtain⟨a,b,off,cap,rfl,hcap,hmax,ha,hk,hv⟩:=h.pairs
 obtain⟨i0,hi,hz0,hz1,hz2⟩:=info_parts Tryz.info63
 unfold maxLen at hmax;have FULL:Hid _:=Sf hasc x y
 clear hasc h;go_enter Tryz.func121,Tryz.ntmps121
 go_wp2;go_loopw [7,8,9] (fun out put i wr=>∃k:Nat,k<=l.length/\i= .int .i64 k/\put= .bool (GW x y l k).2/\wr.ownsRow w.heap.size 63 2 out (GW x y l k).1.length (Au (GW x y l k).1)/\Below w.heap.size w wr)
  (fun _ _ i _=>l.length-(intOf i).toNat)
 case atStart=>exact⟨0,Nat.zero_le _,rfl,rfl,Ec w _ 63 2 (Nat.le_refl _),(Below.refl _ _).alloc (Nat.le_refl _) _⟩
 case round=>
  obtain⟨k,hkl,rfl,rfl,hown,hb⟩:=hrel
  have hbs:=hb.size
  by_cases hlt:k<l.length
  ·have hal:=ha (by omega)
   subst hal;have d0:=(hb.cell (by exact Aa (hk k hlt))).trans (hk k hlt)
   have d1:=(hb.cell (by exact Aa (hv k hlt))).trans (hv k hlt)
   have hds:=Sd x y l k hlt
   have hdl:=JZ x y l k
   obtain⟨cc1,cc2,cc3,cc4,cc5⟩:= @UE x y (GW x y l k) (kOf l k,vOf l k)
   have hbw:b<w.heap.size:=Aa (hk k hlt)
   clear hk hv;generalize hS:GW x y l k=S at *
   clear hS;have HR:Hid _:=Bl (n:=S.1.length) (bytes:=16) (by omega) (by decide)
   have HR2:Hid _:=Bl (n:=S.1.length+1) (bytes:=16) (by omega) (by decide)
   obtain⟨D,fl⟩:=S
   simp only at hown cc1 cc2 cc3 cc4 cc5 HR HR2
   cases fl
   ·rcases(show x<kOf l k∨kOf l k=x∨kOf l k<x from by omega) with hc|hc|hc
    ·have DS:Hid _:=hds.trans (cc1 rfl hc)
     have hq:(kOf l k != x)=true:=by rw[bne_iff_ne];omega
     clear hds cc1 cc2 cc3 cc4 cc5;go_wp2_with (at_builtin;refine BI wr rfl _ _ 24 rfl w.heap.size 63 i0 _ 2 16 Tryz.underlying24 hi hz0 hz1 hz2 rfl (by decide) u7 _ _ rfl hown [.int .i64 x, .int .i64 y] rfl rfl (F5 _ _) HR.out.1 HR.out.2 hbs ?_)
     intro v1 w1 ho1 _ hb1;rw[DT] at ho1
     have hb2:=hb.trans hb1
     have hbs1:=hb2.size
     have e0:=(hb1.cell (p:=⟨b,off+k*2,none⟩) hbw).trans d0
     have e1:=(hb1.cell (p:=⟨b,off+k*2+1,none⟩) hbw).trans d1
     clear d0 d1 hown hb hb1 hbs;go_wp2_with (at_builtin;refine BI w1 rfl _ _ 24 rfl w.heap.size 63 i0 _ 2 16 Tryz.underlying24 hi hz0 hz1 hz2 rfl (by decide) v1 _ _ rfl ho1 [.int .i64 (kOf l k), .int .i64 (vOf l k)] rfl rfl (F5 _ _) HR2.out.1 HR2.out.2 hbs1 ?_)
     intro v2 w2 ho2 _ hb3;rw[DT] at ho2
     have hb4:=hb2.trans hb3
     clear ho1 hb2 hb3 e0 e1;go_wp2;go_roundw
     case rel=>exact⟨k+1,by omega,by go_num,by rw[DS.out],by rw[DS.out,List.length_append,List.length_append];exact ho2,hb4⟩
     case measure=>simp[intOf];omega
    ·have DS:Hid _:=hds.trans (cc2 rfl hc)
     have hq:(kOf l k != x)=false:=by rw[bne_eq_false_iff_eq];exact hc
     have hge:x<=kOf l k:=by omega
     clear hds cc1 cc2 cc3 cc4 cc5 hc;go_wp2_with (at_builtin;refine BI wr rfl _ _ 24 rfl w.heap.size 63 i0 _ 2 16 Tryz.underlying24 hi hz0 hz1 hz2 rfl (by decide) u7 _ _ rfl hown [.int .i64 x, .int .i64 y] rfl rfl (F5 _ _) HR.out.1 HR.out.2 hbs ?_)
     intro v1 w1 ho1 _ hb1;rw[DT] at ho1
     have hb2:=hb.trans hb1
     have e0:=(hb1.cell (p:=⟨b,off+k*2,none⟩) hbw).trans d0
     clear d0 d1 hown hb hb1 hbs;go_wp2;go_roundw
     case rel=>exact⟨k+1,by omega,by go_num,by rw[DS.out],by rw[DS.out,List.length_append];exact ho1,hb2⟩
     case measure=>simp[intOf];omega
    ·have DS:Hid _:=hds.trans (cc3 rfl hc)
     have hq:(kOf l k != x)=true:=by rw[bne_iff_ne];omega
     clear hds cc1 cc2 cc3 cc4 cc5;go_wp2_with (at_builtin;refine BI wr rfl _ _ 24 rfl w.heap.size 63 i0 _ 2 16 Tryz.underlying24 hi hz0 hz1 hz2 rfl (by decide) u7 _ _ rfl hown [.int .i64 (kOf l k), .int .i64 (vOf l k)] rfl rfl (F5 _ _) HR.out.1 HR.out.2 hbs ?_)
     intro v1 w1 ho1 _ hb1;rw[DT] at ho1
     have hb2:=hb.trans hb1
     clear d0 d1 hown hb hb1 hbs;go_wp2;go_roundw
     case rel=>exact⟨k+1,by omega,by go_num,by rw[DS.out],by rw[DS.out,List.length_append];exact ho1,hb2⟩
     case measure=>simp[intOf];omega
   ·by_cases hc:kOf l k=x
    ·have DS:Hid _:=hds.trans (cc5 rfl hc)
     have hq:(kOf l k != x)=false:=by rw[bne_eq_false_iff_eq];exact hc
     clear hds cc1 cc2 cc3 cc4 cc5 hc;have OW:Hid _:=hown
     clear hown;go_wp2;go_roundw
     case rel=>exact⟨k+1,by omega,by go_num,by rw[DS.out],by rw[DS.out];exact OW.out,hb⟩
     case measure=>simp[intOf];omega
    ·have DS:Hid _:=hds.trans (cc4 rfl hc)
     have hq:(kOf l k != x)=true:=by rw[bne_iff_ne];exact hc
     clear hds cc1 cc2 cc3 cc4 cc5;go_wp2_with (at_builtin;refine BI wr rfl _ _ 24 rfl w.heap.size 63 i0 _ 2 16 Tryz.underlying24 hi hz0 hz1 hz2 rfl (by decide) u7 _ _ rfl hown [.int .i64 (kOf l k), .int .i64 (vOf l k)] rfl rfl (F5 _ _) HR.out.1 HR.out.2 hbs ?_)
     intro v1 w1 ho1 _ hb1;rw[DT] at ho1
     have hb2:=hb.trans hb1
     clear d0 d1 hown hb hb1 hbs;go_wp2;go_roundw
     case rel=>exact⟨k+1,by omega,by go_num,by rw[DS.out],by rw[DS.out,List.length_append];exact ho1,hb2⟩
     case measure=>simp[intOf];omega
  ·have hkk:k=l.length:=by omega
   subst hkk;have hdl:=JZ x y l l.length
   generalize hS:GW x y l l.length=S at *
   clear hS;have HR:Hid _:=Bl (n:=S.1.length) (bytes:=16) (by omega) (by decide)
   obtain⟨D,fl⟩:=S
   simp only at hown HR
   cases fl
   ·go_wp2_with (at_builtin;refine BI wr rfl _ _ 24 rfl w.heap.size 63 i0 _ 2 16 Tryz.underlying24 hi hz0 hz1 hz2 rfl (by decide) u7 _ _ rfl hown [.int .i64 x, .int .i64 y] rfl rfl (F5 _ _) HR.out.1 HR.out.2 hbs ?_)
    intro v1 w1 ho1 _ hb1;rw[DT] at ho1
    have hb2:=hb.trans hb1
    clear hown hb hb1 hbs;go_wp2;go_ret;have e:B9 l x y=D++[(x,y)]:=by rw[←FULL.out];rfl
    exact⟨_,rfl,by rw[e,List.length_append];exact ho1,hb2⟩
   ·have OW:Hid _:=hown
    clear hown;go_wp2;go_ret;have e:B9 l x y=D:=by rw[←FULL.out];rfl
    exact⟨_,rfl,by rw[e];exact OW.out,hb⟩
end
section
open Go.RowKit

theorem Tv {a b:Int} {c d:Bool} {q:Int × Bool} (h:q=(a,c)) (h2:b=a) (h3:d=c):Ending.returned (.tuple #[.int .i64 b, .bool d])= .returned (.tuple #[.int .i64 q.1, .bool q.2]):=by rw[h,h2,h3]

theorem Mo (v:Value) (l:List (Int × Int)) (x:Int) (w:World) (h:Row w v l.length (Au l)) :
  Calls Tryz.prog 120 #[v, .int .i64 x] w fun e w' =>e= .returned (.tuple #[.int .i64 (AE l x).1, .bool (AE l x).2])/\w' =w:=by
 obtain⟨a,b,off,cap,rfl,hcap,hmax,ha,hk,hv⟩:=h.pairs
 unfold maxLen at hmax;go_enter Tryz.func120,Tryz.ntmps120
 go_wp2;go_loop [6] (fun i=>∃k:Nat,k<=l.length/\i= .int .i64 k/\(∀j,j<k->kOf l j≠x))
  (fun i=>l.length-(intOf i).toNat)
 case atStart=>exact⟨0,Nat.zero_le _,rfl,fun i hi=>absurd hi (Nat.not_lt_zero _)⟩
 case round=>
  obtain⟨k,hkl,rfl,hall⟩:=hrel
  have ALL:Hid (∀j,j<k->kOf l j≠x):=hall
  clear hall;by_cases hlt:k<l.length
  ·have hal:=ha (by omega)
   subst hal;have d0:=hk k hlt
   have d1:=hv k hlt
   by_cases hx:kOf l k=x
   ·have G:Hid (AE l x=(vOf l k,true)):=WK hlt ALL.out hx
    have hq:(kOf l k==x)=true:=by simpa using hx
    clear hk hv hx;go_wp2;go_ret2
    exact⟨Tv G.out rfl rfl,rfl⟩
   ·have hq:(kOf l k==x)=false:=by simpa using hx
    have HX:Hid (kOf l k≠x):=hx
    clear hk hv hx;go_wp2;go_round
    case rel=>exact⟨k+1,by omega,by go_num,fun i hi=>if h:i<k then ALL.out i h else by rw[show i=k by omega];exact HX.out⟩
    case measure=>simp[intOf];omega
  ·have G:Hid (AE l x=(0,false)):=UV (fun j hj=>ALL.out j (by omega))
   go_wp2;go_ret2
   exact⟨Tv G.out rfl rfl,rfl⟩
end
section
open Go.RowKit

theorem Uf {l:PL} (h:CJ l) (k:Int): -1000000000<=(AE l k).1/\(AE l k).1<=1000000000:=by
 have hh:∀l:PL,(∀p∈l,Pu p)-> -1000000000<=(AE l k).1/\(AE l k).1<=1000000000:=by
  intro l;induction l with
  |nil=>intro _;simp[AE]
  |cons p l ih=>
   intro h;rw[AE]
   split
   ·exact(h p (by simp)).2
   ·exact ih (fun q hq=>h q (by simp[hq]))
 exact hh l h.2

theorem Mj (x:Int) (h1: -4000000000<=x) (h2:x<=4000000000):IntKind.i64.wrap x=x:=by rw[IntKind.wrap_i64];omega
theorem Gj {n bytes:Nat} (h:n<=8388608) (hb:bytes<=256):0+n<=maxLen/\(0+n)*bytes<=140737488355328:=by
 refine⟨by unfold maxLen;omega, ?_⟩
 have:(0+n)*bytes<=(0+n)*256:=Nat.mul_le_mul_left _ hb
 omega

theorem Qd {l:PL} {o k v:Int} (h:Bo l=false∨AK o k v=false):doL l (o,k,v)=l:=by
 unfold doL;rw[if_neg]
 rintro⟨h1,h2⟩
 rcases h with h|h
 ·rw[h] at h1;cases h1
 ·simp only at h2;rw[h] at h2;cases h2
theorem VU {l:PL} {o k v:Int} (h1:Bo l=true) (h2:AK o k v=true):doL l (o,k,v)=doP l (o,k,v):=by
 unfold doL;rw[if_pos ⟨h1,h2⟩]

theorem Nv (va:Value) (l:PL) (o k v:Int) (w:World) (h:Row w va l.length (Au l)) (hn:l.length<=2097152) :
  Calls Tryz.prog 96 #[va, .agg #[.int .i64 o, .int .i64 k, .int .i64 v]] w fun e w' =>∃v',e= .returned v' ∧w'.ownsRow w.heap.size 63 2 v' (doL l (o,k,v)).length (Au (doL l (o,k,v)))/\Below w.heap.size w w' :=by
 obtain⟨i0,hi,hz0,hz1,hz2⟩:=info_parts Tryz.info63
 have b0:Below w.heap.size w (w.alloc (.cells #[.int .i64 o, .int .i64 k, .int .i64 v] 31)):=(Below.refl _ _).alloc (Nat.le_refl _) _
 have RW:Hid (Row w va l.length (Au l)):=h
 have HR:Hid _:=Gj (n:=l.length) (bytes:=16) (by omega) (by decide)
 obtain⟨a,b,off,cap,hva,_⟩:=h.pairs
 cases hM:Bo l
 ·have E:Hid (doL l (o,k,v)=l):=Qd (Or.inl hM)
  clear h hva;go_enter Tryz.func96,Tryz.ntmps96
  go_wp2_with fail;refine(De va l _ (RW.out.below b0)).mono ?_
  rw[hM]
  rintro e w1 ⟨rfl,b1⟩
  have B1:Below w.heap.size w w1:=Below.and b0 b1
  have B1s:=B1.size
  have R1:Row w1 va l.length (Au l):=(RW.out.below b0).below b1
  have RR:Hid (Row w1 va l.length (Au l)):=R1
  clear b0 b1 R1 hM;have Hb:Hid (w.heap.size<=(w1.alloc (.cells #[] 63)).heap.size):=by show _<=_;simp;omega
  go_wp2_with (at_builtin;refine F7 (w1.alloc (.cells #[] 63)) rfl _ _ 24 rfl w.heap.size 63 i0 _ 2 16 Tryz.underlying24 hi hz0 hz1 hz2 rfl (by decide) (.slice (some ⟨w1.heap.size,0,none⟩) 0 0) 0 [] rfl (Ec w1 w.heap.size 63 2 B1s) va l.length (Au l) rfl (RR.out.below ((Below.refl _ _).alloc (Nat.le_refl _) _)) (Cx _) (Ei _) HR.out.1 HR.out.2 Hb.out ?_)
  intro v' w2 ho2 _ hb2;have B2:Below w.heap.size w w2:=(B1.alloc B1s _).trans hb2
  clear hb2 B1;go_wp2;go_ret;rw[E.out]
  exact⟨_,rfl,by simpa using ho2,B2⟩
 ·have hmp:CJ l:=(EJ l).1 hM
  cases hG:AK o k v
  ·have E:Hid (doL l (o,k,v)=l):=Qd (Or.inr hG)
   clear h hva;go_enter Tryz.func96,Tryz.ntmps96
   go_wp2_with fail;refine(De va l _ (RW.out.below b0)).mono ?_
   rw[hM]
   rintro e w1 ⟨rfl,b1⟩
   have B1:Below w.heap.size w w1:=Below.and b0 b1
   obtain⟨hc,_⟩:=Q6 b1
   have R1:Row w1 va l.length (Au l):=(RW.out.below b0).below b1
   have RR:Hid (Row w1 va l.length (Au l)):=R1
   have B1' :Hid _:=B1
   clear b0 b1 R1 hM B1 hmp;go_wp2_with fail;refine(Cm _ _ _ _).mono ?_
   rw[hG]
   rintro e w2 ⟨rfl,b2⟩
   have B2:Below w.heap.size w w2:=Below.and B1'.out b2
   have R2:Hid (Row w2 va l.length (Au l)):=RR.out.below b2
   have B2s:=B2.size
   clear hc b2 hG;have Hb:Hid (w.heap.size<=(w2.alloc (.cells #[] 63)).heap.size):=by show _<=_;simp;omega
   go_wp2_with (at_builtin;refine F7 (w2.alloc (.cells #[] 63)) rfl _ _ 24 rfl w.heap.size 63 i0 _ 2 16 Tryz.underlying24 hi hz0 hz1 hz2 rfl (by decide) (.slice (some ⟨w2.heap.size,0,none⟩) 0 0) 0 [] rfl (Ec w2 w.heap.size 63 2 B2s) va l.length (Au l) rfl (R2.out.below ((Below.refl _ _).alloc (Nat.le_refl _) _)) (Cx _) (Ei _) HR.out.1 HR.out.2 Hb.out ?_)
   intro v' w3 ho3 _ hb3;have B3:Below w.heap.size w w3:=(B2.alloc B2s _).trans hb3
   clear hb3 B2;go_wp2;go_ret;rw[E.out]
   exact⟨_,rfl,by simpa using ho3,B3⟩
  ·have E:Hid (doL l (o,k,v)=doP l (o,k,v)):=VU hM hG
   obtain⟨⟨ho1,ho4⟩,⟨hk0,hk9⟩,hv0,hv9⟩:=CG hG
   obtain⟨hg0,hg9⟩:=Uf hmp k
   have ASC:Hid (Asc l):=hmp.1
   clear h hva;go_enter Tryz.func96,Tryz.ntmps96
   go_wp2_with fail;refine(De va l _ (RW.out.below b0)).mono ?_
   rw[hM]
   rintro e w1 ⟨rfl,b1⟩
   have B1:Below w.heap.size w w1:=Below.and b0 b1
   obtain⟨hc,_⟩:=Q6 b1
   have R1:Row w1 va l.length (Au l):=(RW.out.below b0).below b1
   have RR:Hid (Row w1 va l.length (Au l)):=R1
   have B1' :Hid (Below w.heap.size w w1):=B1
   have b1' :Hid _:=b1
   clear b1 R1 hM B1 hmp;go_wp2_with fail;refine(Cm _ _ _ _).mono ?_
   rw[hG]
   rintro e w2 ⟨rfl,b2⟩
   have B2:Below w.heap.size w w2:=Below.and B1'.out b2
   have R2:Hid (Row w2 va l.length (Au l)):=RR.out.below b2
   have b3:=Below.and b1'.out b2
   obtain⟨hc3,_⟩:=Q6 b3
   have B2' :Hid (Below w.heap.size w w2):=B2
   clear hc b2 hG b1' B1' RR b3 B2 b0;go_wp2_with fail;refine(Mo _ l _ _ R2.out).mono ?_
   rintro e w3 ⟨rfl,rfl⟩
   generalize hgp:AE l k=G at *
   obtain⟨g,gb⟩:=G
   simp only at hg0 hg9
   rcases(show o=1∨o=2∨o=3∨o=4 from by omega) with rfl|rfl|rfl|rfl
   ·have E2:Hid (doP l (1,k,v)=B9 l k v):=by show doP _ _=_;simp[doP]
    clear hgp;go_wp2_with fail;refine(On _ l _ _ _ R2.out hn ASC.out).mono ?_
    rintro e w4 ⟨v',rfl,o4,b4⟩
    go_wp2;go_ret;rw[E.out,E2.out]
    exact⟨_,rfl,AR o4 B2'.out.size,Below.and B2'.out b4⟩
   ·have E2:Hid (doP l (2,k,v)=Dh l k):=by show doP _ _=_;simp[doP]
    clear hgp;go_wp2_with fail;refine(Ny _ l _ _ R2.out (by omega)).mono ?_
    rintro e w4 ⟨v',rfl,o4,b4⟩
    go_wp2;go_ret;rw[E.out,E2.out]
    exact⟨_,rfl,AR o4 B2'.out.size,Below.and B2'.out b4⟩
   ·have E2:Hid (doP l (3,k,v)=B9 l k (Bg (g+v))):=by show doP _ _=_;simp[doP,hgp]
    have hw:IntKind.i64.wrap (g+v)=g+v:=Mj _ (by omega) (by omega)
    clear hgp;go_wp2_with fail;go_region_with (first|(go_at_call 99;refine(Lf _ _).mono ?_;rintro e w' ⟨rfl,rfl⟩)|(go_at_call 121;refine(On _ l _ _ _ (R2.out.below (by exact(Below.refl _ _).drew)) hn ASC.out).mono ?_;rintro e w4 ⟨v',rfl,o4,b4⟩))
    all_goals
     go_wp2;go_ret;rw[E.out,E2.out]
     exact⟨_,rfl,AR o4 B2'.out.size,B2'.out.drew.trans (b4.mono B2'.out.size)⟩
   ·have E2:Hid (doP l (4,k,v)=l):=by show doP _ _=_;simp[doP]
    clear hgp;have B2s:=B2'.out.size
    have Hb:Hid (w.heap.size<=(w3.alloc (.cells #[] 63)).heap.size):=by show _<=_;simp;omega
    go_wp2_with (at_builtin;refine F7 (w3.alloc (.cells #[] 63)) rfl _ _ 24 rfl w.heap.size 63 i0 _ 2 16 Tryz.underlying24 hi hz0 hz1 hz2 rfl (by decide) (.slice (some ⟨w3.heap.size,0,none⟩) 0 0) 0 [] rfl (Ec w3 w.heap.size 63 2 B2s) va l.length (Au l) rfl (R2.out.below ((Below.refl _ _).alloc (Nat.le_refl _) _)) (Cx _) (Ei _) HR.out.1 HR.out.2 Hb.out ?_)
    intro v' w4 ho3 _ hb3;have B3:Below w.heap.size w w4:=(B2'.out.alloc B2s _).trans hb3
    clear hb3;go_wp2;go_ret;rw[E.out,E2.out]
    exact⟨_,rfl,by simpa using ho3,B3⟩
end
section
open Go.RowKit

def DW (w:World) (B:Nat) (F:Nat->Prop) (l:PL):Prop:=Srt w B F (Bn l) (Fd l)
theorem DW.below {w w' :World} {B:Nat} {F:Nat->Prop} {l:PL} (h:DW w B F l) (hb:Below w.heap.size w w'):DW w' B F l:=Srt.chg h (Chg.of_below (F:=fun _=>False) hb) (fun _ _ e=>e)

theorem Il (B:Nat) (F:Nat->Prop) (l:PL) (k v:Int) (w:World) (h:DW w B F l) (hs:Asc l) (hbig:l.length<=1048576) :
  Calls Tryz.prog 110 #[.pointer (some ⟨B,0,none⟩), .int .i64 k, .int .i64 v] w fun e w'=>
   e= .returned (.tuple #[])/\∃F',DW w' B F' (B9 l k v)/\Chg F w w' ∧(∀g,F' g->F g∨w.heap.size<=g):=by
 have hl:(Fd l).length=(Bn l).length:=by rw[Dc,EO]
 have hb:(Bn l).length<=1048576:=by rw[Dc];exact hbig
 cases hf:(Bn l).contains k
 ·refine(XG B F (Bn l) (Fd l) k v w h hs.le hl hb hf).mono ?_
  rintro e w' ⟨rfl,F',h1,h2,h3⟩
  refine⟨rfl,F', ?_,h2,h3⟩
  obtain⟨e1,e2⟩:=Ph (v:=v) hs hf
  rw[DW,e1,e2];exact h1
 ·refine(Va B F (Bn l) (Fd l) k v w h hs.le hl hb hf).mono ?_
  rintro e w' ⟨rfl,F',h1,h2,h3⟩
  refine⟨rfl,F', ?_,h2,h3⟩
  obtain⟨e1,e2⟩:=MD (v:=v) hs hf
  rw[DW,e1,e2];exact h1

theorem Wz (B:Nat) (F:Nat->Prop) (l:PL) (k:Int) (w:World) (h:DW w B F l) (hs:Asc l) (hbig:l.length<=1048576) :
  Calls Tryz.prog 112 #[.pointer (some ⟨B,0,none⟩), .int .i64 k] w fun e w'=>
   e= .returned (.tuple #[])/\∃F',DW w' B F' (Dh l k)/\Chg F w w' ∧(∀g,F' g->F g∨w.heap.size<=g):=by
 have hl:(Fd l).length=(Bn l).length:=by rw[Dc,EO]
 have hb:(Bn l).length<=1048576:=by rw[Dc];exact hbig
 cases hf:(Bn l).contains k
 ·refine(Vg B F (Bn l) (Fd l) k w h hs.le hb hf).mono ?_
  rintro e w' ⟨rfl,q,rfl⟩
  refine⟨rfl,F, ?_,(Chg.refl _ _).drewN q,fun _ hg=>Or.inl hg⟩
  rw[W6 hf]
  exact DW.below h (below_drewN (Below.refl _ _) q)
 ·refine(Sr B F (Bn l) (Fd l) k w h hs.le hl hb hf).mono ?_
  rintro e w' ⟨rfl,F',h1,h2,h3⟩
  refine⟨rfl,F', ?_,h2,h3⟩
  obtain⟨e1,e2⟩:=LH hs hf
  rw[DW,e1,e2];exact h1

theorem TQ (B:Nat) (F:Nat->Prop) (l:PL) (k:Int) (w:World) (h:DW w B F l) (hs:Asc l) (hbig:l.length<=1048576) :
  Calls Tryz.prog 113 #[.pointer (some ⟨B,0,none⟩), .int .i64 k] w fun e w' =>e= .returned (.tuple #[.int .i64 (AE l k).1, .bool (AE l k).2])/\∃q,w' =w.drewN q:=by
 have hl:(Fd l).length=(Bn l).length:=by rw[Dc,EO]
 have hb:(Bn l).length<=1048576:=by rw[Dc];exact hbig
 have:=XO B F (Bn l) (Fd l) k w h hs.le hl hb
 rw[show PU (Bn l) (Fd l) k=AE l k from WQ hs k] at this
 exact this

theorem Wd (B:Nat) (F:Nat->Prop) (l:PL) (o k v:Int) (w:World) (h:DW w B F l) (hmp:CJ l) (hm:AK o k v=true) (hbig:l.length<=1048576) :
  Calls Tryz.prog 85 #[.pointer (some ⟨B,0,none⟩),Cr (o,k,v)] w fun e w'=>
   e= .returned (.tuple #[])/\∃F',DW w' B F' (doP l (o,k,v))/\Chg F w w' ∧(∀g,F' g->F g∨w.heap.size<=g):=by
 obtain⟨⟨ho1,ho4⟩,_,hv0,hv9⟩:=CG hm
 obtain⟨hg0,hg9⟩:=Uf hmp k
 have ASC:Hid (Asc l):=hmp.1
 have SH:Hid (DW w B F l):=h
 clear h hmp hm;rcases(show o=1∨o=2∨o=3∨o=4 from by omega) with rfl|rfl|rfl|rfl
 ·have E:Hid (doP l (1,k,v)=B9 l k v):=by show doP _ _=_;simp[doP]
  rw[show Cr (1,k,v)= .iface 149 (.agg #[.int .i64 k, .int .i64 v]) from rfl]
  have b0:Below w.heap.size w (w.alloc (.cells #[.int .i64 k, .int .i64 v] 149)):=(Below.refl _ _).alloc (Nat.le_refl _) _
  have S0:Hid _:=And.intro (SH.out.below b0) b0
  clear b0;have t99:=LI k v
  go_enter Tryz.func85,Tryz.ntmps85
  go_wp2_with fail;refine(Il B F l _ _ _ S0.out.1 ASC.out hbig).mono ?_
  rintro e w1 ⟨rfl,F',h1,h2,h3⟩
  have FIN:Hid _:=And.intro h1 (And.intro ((Chg.of_below S0.out.2).trans h2 (fun _ _ e=>e)) h3)
  clear h1 h2 h3;go_wp2;go_end0
  rw[E.out]
  exact⟨rfl,F',FIN.out.1,FIN.out.2.1,fun g hg=>(FIN.out.2.2 g hg).imp id (fun h=>Nat.le_trans S0.out.2.size h)⟩
 ·have E:Hid (doP l (2,k,v)=Dh l k):=by show doP _ _=_;simp[doP]
  rw[show Cr (2,k,v)= .iface 151 (.agg #[.int .i64 k]) from rfl]
  have b0:Below w.heap.size w (w.alloc (.cells #[.int .i64 k] 151)):=(Below.refl _ _).alloc (Nat.le_refl _) _
  have S0:Hid _:=And.intro (SH.out.below b0) b0
  clear b0;have t99:=Ki k
  have t105:=LK k
  go_enter Tryz.func85,Tryz.ntmps85
  go_wp2_with fail;refine(Wz B F l _ _ S0.out.1 ASC.out hbig).mono ?_
  rintro e w1 ⟨rfl,F',h1,h2,h3⟩
  have FIN:Hid _:=And.intro h1 (And.intro ((Chg.of_below S0.out.2).trans h2 (fun _ _ e=>e)) h3)
  clear h1 h2 h3;go_wp2;go_end0
  rw[E.out]
  exact⟨rfl,F',FIN.out.1,FIN.out.2.1,fun g hg=>(FIN.out.2.2 g hg).imp id (fun h=>Nat.le_trans S0.out.2.size h)⟩
 ·have E:Hid (doP l (3,k,v)=B9 l k (Bg ((AE l k).1+v))):=by show doP _ _=_;simp[doP]
  rw[show Cr (3,k,v)= .iface 153 (.agg #[.int .i64 k, .int .i64 v]) from rfl]
  have b0:Below w.heap.size w (w.alloc (.cells #[.int .i64 k, .int .i64 v] 153)):=(Below.refl _ _).alloc (Nat.le_refl _) _
  have S0:Hid (DW (w.alloc (.cells #[.int .i64 k, .int .i64 v] 153)) B F l):=SH.out.below b0
  have B0:Hid _:=b0
  clear b0;have t99:=Kf k v
  have t105:=Mu k v
  have t101:=Nb k v
  go_enter Tryz.func85,Tryz.ntmps85
  go_wp2_with fail;refine(TQ B F l _ _ S0.out ASC.out hbig).mono ?_
  rintro e w1 ⟨rfl,q,rfl⟩
  generalize (AE l k).1=g at *
  generalize (AE l k).2=gb at *
  have S1:Hid (∀n,DW ((w.alloc (.cells #[.int .i64 k, .int .i64 v] 153)).drewN n) B F l):=fun n=>S0.out.below (below_drewN (Below.refl _ _) n)
  clear t99 t105 t101;go_wp2_with fail;go_region_with (first|(go_at_call 114;refine(H8 _ _ _ hg0 hg9 hv0 hv9).mono ?_;rintro e w' ⟨rfl,rfl⟩)|(go_at_call 110;refine(Il B F l _ _ _ (by exact DW.below (S1.out q) (Below.refl _ _).drew) ASC.out hbig).mono ?_;rintro e w1 ⟨rfl,F',h1,h2,h3⟩))
  all_goals
   have FIN:Hid _:=And.intro h1 (And.intro ((Chg.of_below (F:=F) ((below_drewN B0.out q).drew)).trans h2 (fun _ _ e=>e)) h3)
   clear h1 h2 h3;go_wp2;go_end0
   rw[E.out]
   exact⟨rfl,F',FIN.out.1,FIN.out.2.1,fun g' hg' =>(FIN.out.2.2 g' hg').imp id (fun h=>Nat.le_trans B0.out.size h)⟩
 ·have E:Hid (doP l (4,k,v)=l):=by show doP _ _=_;simp[doP]
  rw[show Cr (4,k,v)= .iface 157 (.agg #[.int .i64 k]) from rfl]
  have b0:Below w.heap.size w (w.alloc (.cells #[.int .i64 k] 157)):=(Below.refl _ _).alloc (Nat.le_refl _) _
  have S0:Hid _:=And.intro (SH.out.below b0) b0
  clear b0;have t99:=Kj k
  have t105:=Mf k
  have t101:=Mr k
  have t107:=Nr k
  go_enter Tryz.func85,Tryz.ntmps85
  go_wp2;go_end0
  rw[E.out]
  exact⟨rfl,F,S0.out.1,Chg.of_below S0.out.2,fun g hg=>Or.inl hg⟩

theorem Wj {A:PL} {p:Int × Int} (h:∀q∈A,q.1<p.1):B9 A p.1 p.2=A++[p]:=by
 have h1:A.filter (fun q=>decide (q.1<p.1))=A:=List.filter_eq_self.2 (fun q hq=>by have:=h q hq;simp;omega)
 have h2:A.filter (fun q=>decide (p.1<q.1))=[]:=List.filter_eq_nil_iff.2 (fun q hq=>by have:=h q hq;simp;omega)
 rw[B9,h1,h2]
theorem W8 {l:PL} (h:Asc l) (k:Nat):Asc (l.take k):=by
 have:Bn (l.take k)=(Bn l).take k:=by simp[Bn,List.map_take]
 rw[Asc,this]
 exact List.Pairwise.sublist (List.take_sublist _ _) h
theorem QX {l:PL} (h:Asc l) (k:Nat) (hk:k<l.length):∀q∈l.take k,q.1<kOf l k:=by
 intro q hq;obtain⟨i,hi,rfl⟩:=List.getElem_of_mem hq
 have hik:i<k:=by simp at hi;omega
 have hil:i<l.length:=by omega
 have:=List.pairwise_iff_getElem.1 (List.pairwise_map.1 h) i k hil hk hik
 simp only[kOf,List.getD,List.getElem?_eq_getElem hk,Option.getD_some,List.getElem_take]
 exact this
theorem Wn {l:PL} (h:Asc l) (k:Nat) (hk:k<l.length):B9 (l.take k) (kOf l k) (vOf l k)=l.take (k+1):=by
 rw[Hn l k hk]
 exact Wj (p:=(kOf l k,vOf l k)) (QX h k hk)
end
end Go.Proofs.YtnakaabnjelffaaGreat
