/-
  Lists of structs: copied out of the law's own kind.
  toWorld: a world copied out of the law's own kind owns its memory.
  Marks that are written into a row of structs, and into what each of them leads to: where one stands between two writes.
  The laws' own functions that write marks into a list of what was done last, and look for them.
  The laws' own functions that write marks into a list of truths, and look for them.
-/
import Derived.Test.YtkcaelfkcepdkaaGreatOfNote6
import Derived.Test.YtkcaelfkcepdkaaGreatOfNote7
import Derived.Test.YtkcaelfkcepdkaaGreatOfNote4
import Derived.Test.YtkcaelfkcepdkaaGreatOfNote10
import Derived.Test.YtkcaelfkcepdkaaGreatOfNote1
import Derived.Test.YtkcaelfkcepdkaaGreatOfNote8
import Derived.Test.YtkcaelfkcepdkaaGreatOfNote2
import Derived.Test.YtkcaelfkcepdkaaGreatOfNote5
namespace Go.Proofs.YtkcaelfkcepdkaaGreat
set_option maxRecDepth 100000
set_option maxHeartbeats 8000000
section
open Go.RowKit

theorem Nv (v:Value) (es:List Ex) (w:World) (h:Cr AM F6 w v es) (hn:es.length<=1048576) :
  Calls Tryz.prog 30 #[v] w fun e w' =>∃(v' :Value) (fs:List Ex),e= .returned v' ∧Bs Eq es fs/\w'.ownsRow w.heap.size 117 5 v' fs.length (fs.map AM).flatten/\Below w.heap.size w w' :=by
 obtain⟨a,b,off,cap,rfl,hcap,hmax,ha,rg⟩:=h.parts (K:=5) (fun _=>rfl)
 obtain⟨i0,hi,hz0,hz1,hz2⟩:=info_parts (show(Tryz.prog.info? 117).map (fun i=>(i.zero,i.size,i.bytes))=some (some (.agg Nt.toArray),5,40) by kernel_rfl)
 unfold maxLen at hmax;have RG:=hq rg
 have HA:=hq ha
 clear h rg ha;go_enter Tryz.func30,Tryz.ntmps30
 go_wp2_with (at_make;refine wpList_make_full _ rfl _ _ 33 rfl w.heap.size 117 i0 _ 5 Tryz.underlying33 hi hz0 hz1 .i64 .i64 _ _ es.length rfl rfl rfl rfl ?c1 ?c2 ?c3 ?_)
 case c1=>rw[hz2];omega
 case c2=>unfold maxLen;omega
 case c3=>exact Nat.le_refl _
 intro w0 hown0 hgrow0;have B0:=hq ((Below.refl w.heap.size w).grown hgrow0 (Nat.le_refl _) (fun k hk=>by cases hk))
 have O0:Hid (w0.ownsRow w.heap.size 117 5 (.slice (some ⟨w.heap.size,0,none⟩) es.length es.length) es.length (List.replicate es.length Nt).flatten):=by
  show World.ownsRow _ _ _ _ _ _ _
  rw[←FD Nt 5 rfl (by decide) es.length]
  exact hown0
 have H0:Hid (w.heap.size<w0.heap.size):=by
  obtain⟨_,h2⟩:=O0.out
  rcases h2 with⟨h2,_⟩|⟨g,_,cur,hv,_,hg,_⟩
  ·cases h2
  ·simp only[Value.slice.injEq,Option.some.injEq,Addr.mk.injEq,true_and,and_true] at hv
   rw[hv.1]
   exact(Array.getElem?_eq_some_iff.1 hg).1
 clear hgrow0 hown0 hi hz0 hz1 hz2;go_wp2;go_loopw [4] (fun i wr=>∃(k:Nat) (fs:List Ex),k<=es.length/\i= .int .i64 k/\Hid (Bs Eq (es.take k) fs)/\Hid (wr.ownsRow w.heap.size 117 5 (.slice (some ⟨w.heap.size,0,none⟩) es.length es.length) es.length (fs.map AM++List.replicate (es.length-k) Nt).flatten)/\Hid (Below w.heap.size w wr)/\Hid (w.heap.size<wr.heap.size))
  (fun i _=>es.length-(intOf i).toNat)
 case atStart=>exact⟨0,[],Nat.zero_le _,rfl,⟨by simp,fun i h=>by simp at h⟩,O0.out,B0.out,H0.out⟩
 case round=>
  obtain⟨k,fs,hk,rfl,LK,OW,BW,HW⟩:=hrel
  clear O0 B0 H0;by_cases hlt:k<es.length
  ·have hal:=HA.out (by omega)
   subst hal;have hi2:(k:Int)<(es.length:Int):=by omega
   have RU:=hq (RG.out wr BW.out k hlt)
   go_wp2_with (refine wpList_load_mid rfl 139 _ rfl b (off+k*5) rfl (AM es[k]) _ RU.out Tryz.underlying139 rfl (show(Tryz.prog.info? 139).map (·.size)=some 5 by kernel_rfl) ?_)
   refine(Rz es[k] wr).mono ?_
   rintro e w1 ⟨rfl,b1⟩
   have hfl:fs.length=k:=by have:=LK.out.1;rw[List.length_take] at this;omega
   have LK2:=hq (Bs.snoc hlt (y:=es[k]) LK.out rfl)
   have AK:DQ 5 (fs.map AM++List.replicate (es.length-k) Nt):=fun l hl=>by
    rcases List.mem_append.1 hl with h1|h1
    ·exact B8 (K:=5) (fun _=>rfl) fs l h1
    ·rw[(List.mem_replicate.1 h1).2];rfl
   obtain⟨cc,hcc⟩:∃cc:List Value,cc=AM es[k]:=⟨_,rfl⟩
   have hcl:cc.length=5:=by rw[hcc];rfl
   rw[←hcc]
   have PU:=EO (Bc OW.out b1) (by simp[hfl];omega) AK k hlt cc hcl
   have TH:Hid (w1.there w.heap.size (k*5) cc.toArray.size):=by show World.there _ _ _ cc.length;rw[hcl];exact PU.2
   have ES:(fs.map AM++List.replicate (es.length-k) Nt).set k cc=(fs++[es[k]]).map AM++List.replicate (es.length-(k+1)) Nt:=by
    rw[show es.length-k=(es.length-(k+1))+1 by omega,List.replicate_succ,List.set_append_right _ _ (by simp[hfl]),List.length_map,hfl,Nat.sub_self,List.set_cons_zero,List.map_append,hcc]
    simp
   have P1:=PU.1
   rw[ES] at P1
   have OW2:=hq P1
   have GC:Chg (fun g=>g=w.heap.size) w1 (w1.setCells w.heap.size (k*5) cc):=Chg.setCells (F:=fun b=>b=w.heap.size) (g:=w.heap.size) (fun _=>rfl) _ _ w1 (Chg.refl _ _)
   have BW2:=hq ((Below.and BW.out b1).trans (GC.below (fun g hg e=>by omega) (Below.and BW.out b1).size))
   have HW2:Hid (w.heap.size<(w1.setCells w.heap.size (k*5) cc).heap.size):=Nat.lt_of_lt_of_le (Nat.lt_of_lt_of_le HW.out b1.size) GC.size
   have ONE:Hid (cc.toArray.all (·.oneCell')=true):=by rw[hcc];exact(show(AM es[k]).toArray.all (·.oneCell')=true by simp[AM,Value.oneCell'])
   have HM:Hid ((Tryz.prog.info? 117).map (·.size)=some cc.toArray.size):=by show _=some cc.length;rw[hcl];exact(show(Tryz.prog.info? 117).map (·.size)=some 5 by kernel_rfl)
   clear hcc hcl PU P1 GC AK ES b1 OW LK BW HW;go_wp2_with (refine wpList_store_mid rfl 117 _ _ rfl w.heap.size (k*5) cc.toArray rfl rfl TH.out HM.out ONE.out ?_)
   generalize w1.setCells w.heap.size (k*5) cc=W2 at *
   go_roundw
   case rel=>exact⟨k+1,fs++[es[k]],by omega,by go_num,LK2.out,OW2.out,BW2.out,HW2.out⟩
   case measure=>simp[intOf];omega
  ·have hi2:¬(k:Int)<(es.length:Int):=by omega
   have hke:k=es.length:=by omega
   have L2:Hid (Bs Eq es fs):=by have:=LK.out;rw[hke,List.take_length] at this;exact this
   have O2:Hid (wr.ownsRow w.heap.size 117 5 (.slice (some ⟨w.heap.size,0,none⟩) es.length es.length) fs.length (fs.map AM).flatten):=by
    have:=OW.out
    rw[hke,Nat.sub_self,List.replicate_zero,List.append_nil] at this
    show World.ownsRow _ _ _ _ _ _ _
    rw[←L2.out.1]
    exact this
   clear LK OW;go_wp2;go_ret;exact⟨_,rfl,fs,L2.out,O2.out,BW.out⟩

theorem Ly (v:Value) (es:List Er) (w:World) (h:Cr AN F6 w v es) (hn:es.length<=1048576) :
  Calls Tryz.prog 32 #[v] w fun e w' =>∃(v' :Value) (fs:List Er),e= .returned v' ∧Bs Eq es fs/\w'.ownsRow w.heap.size 121 2 v' fs.length (fs.map AN).flatten/\Below w.heap.size w w' :=by
 obtain⟨a,b,off,cap,rfl,hcap,hmax,ha,rg⟩:=h.parts (K:=2) (fun _=>rfl)
 obtain⟨i0,hi,hz0,hz1,hz2⟩:=info_parts (show(Tryz.prog.info? 121).map (fun i=>(i.zero,i.size,i.bytes))=some (some (.agg NH.toArray),2,16) by kernel_rfl)
 unfold maxLen at hmax;have RG:=hq rg
 have HA:=hq ha
 clear h rg ha;go_enter Tryz.func32,Tryz.ntmps32
 go_wp2_with (at_make;refine wpList_make_full _ rfl _ _ 35 rfl w.heap.size 121 i0 _ 2 Tryz.underlying35 hi hz0 hz1 .i64 .i64 _ _ es.length rfl rfl rfl rfl ?c1 ?c2 ?c3 ?_)
 case c1=>rw[hz2];omega
 case c2=>unfold maxLen;omega
 case c3=>exact Nat.le_refl _
 intro w0 hown0 hgrow0;have B0:=hq ((Below.refl w.heap.size w).grown hgrow0 (Nat.le_refl _) (fun k hk=>by cases hk))
 have O0:Hid (w0.ownsRow w.heap.size 121 2 (.slice (some ⟨w.heap.size,0,none⟩) es.length es.length) es.length (List.replicate es.length NH).flatten):=by
  show World.ownsRow _ _ _ _ _ _ _
  rw[←FD NH 2 rfl (by decide) es.length]
  exact hown0
 have H0:Hid (w.heap.size<w0.heap.size):=by
  obtain⟨_,h2⟩:=O0.out
  rcases h2 with⟨h2,_⟩|⟨g,_,cur,hv,_,hg,_⟩
  ·cases h2
  ·simp only[Value.slice.injEq,Option.some.injEq,Addr.mk.injEq,true_and,and_true] at hv
   rw[hv.1]
   exact(Array.getElem?_eq_some_iff.1 hg).1
 clear hgrow0 hown0 hi hz0 hz1 hz2;go_wp2;go_loopw [4] (fun i wr=>∃(k:Nat) (fs:List Er),k<=es.length/\i= .int .i64 k/\Hid (Bs Eq (es.take k) fs)/\Hid (wr.ownsRow w.heap.size 121 2 (.slice (some ⟨w.heap.size,0,none⟩) es.length es.length) es.length (fs.map AN++List.replicate (es.length-k) NH).flatten)/\Hid (Below w.heap.size w wr)/\Hid (w.heap.size<wr.heap.size))
  (fun i _=>es.length-(intOf i).toNat)
 case atStart=>exact⟨0,[],Nat.zero_le _,rfl,⟨by simp,fun i h=>by simp at h⟩,O0.out,B0.out,H0.out⟩
 case round=>
  obtain⟨k,fs,hk,rfl,LK,OW,BW,HW⟩:=hrel
  clear O0 B0 H0;by_cases hlt:k<es.length
  ·have hal:=HA.out (by omega)
   subst hal;have hi2:(k:Int)<(es.length:Int):=by omega
   have RU:=hq (RG.out wr BW.out k hlt)
   go_wp2_with (refine wpList_load_mid rfl 145 _ rfl b (off+k*2) rfl (AN es[k]) _ RU.out Tryz.underlying145 rfl (show(Tryz.prog.info? 145).map (·.size)=some 2 by kernel_rfl) ?_)
   refine(Qg es[k] wr).mono ?_
   rintro e w1 ⟨rfl,b1⟩
   have hfl:fs.length=k:=by have:=LK.out.1;rw[List.length_take] at this;omega
   have LK2:=hq (Bs.snoc hlt (y:=es[k]) LK.out rfl)
   have AK:DQ 2 (fs.map AN++List.replicate (es.length-k) NH):=fun l hl=>by
    rcases List.mem_append.1 hl with h1|h1
    ·exact B8 (K:=2) (fun _=>rfl) fs l h1
    ·rw[(List.mem_replicate.1 h1).2];rfl
   obtain⟨cc,hcc⟩:∃cc:List Value,cc=AN es[k]:=⟨_,rfl⟩
   have hcl:cc.length=2:=by rw[hcc];rfl
   rw[←hcc]
   have PU:=EO (Bc OW.out b1) (by simp[hfl];omega) AK k hlt cc hcl
   have TH:Hid (w1.there w.heap.size (k*2) cc.toArray.size):=by show World.there _ _ _ cc.length;rw[hcl];exact PU.2
   have ES:(fs.map AN++List.replicate (es.length-k) NH).set k cc=(fs++[es[k]]).map AN++List.replicate (es.length-(k+1)) NH:=by
    rw[show es.length-k=(es.length-(k+1))+1 by omega,List.replicate_succ,List.set_append_right _ _ (by simp[hfl]),List.length_map,hfl,Nat.sub_self,List.set_cons_zero,List.map_append,hcc]
    simp
   have P1:=PU.1
   rw[ES] at P1
   have OW2:=hq P1
   have GC:Chg (fun g=>g=w.heap.size) w1 (w1.setCells w.heap.size (k*2) cc):=Chg.setCells (F:=fun b=>b=w.heap.size) (g:=w.heap.size) (fun _=>rfl) _ _ w1 (Chg.refl _ _)
   have BW2:=hq ((Below.and BW.out b1).trans (GC.below (fun g hg e=>by omega) (Below.and BW.out b1).size))
   have HW2:Hid (w.heap.size<(w1.setCells w.heap.size (k*2) cc).heap.size):=Nat.lt_of_lt_of_le (Nat.lt_of_lt_of_le HW.out b1.size) GC.size
   have ONE:Hid (cc.toArray.all (·.oneCell')=true):=by rw[hcc];exact(show(AN es[k]).toArray.all (·.oneCell')=true by simp[AN,Value.oneCell'])
   have HM:Hid ((Tryz.prog.info? 121).map (·.size)=some cc.toArray.size):=by show _=some cc.length;rw[hcl];exact(show(Tryz.prog.info? 121).map (·.size)=some 2 by kernel_rfl)
   clear hcc hcl PU P1 GC AK ES b1 OW LK BW HW;go_wp2_with (refine wpList_store_mid rfl 121 _ _ rfl w.heap.size (k*2) cc.toArray rfl rfl TH.out HM.out ONE.out ?_)
   generalize w1.setCells w.heap.size (k*2) cc=W2 at *
   go_roundw
   case rel=>exact⟨k+1,fs++[es[k]],by omega,by go_num,LK2.out,OW2.out,BW2.out,HW2.out⟩
   case measure=>simp[intOf];omega
  ·have hi2:¬(k:Int)<(es.length:Int):=by omega
   have hke:k=es.length:=by omega
   have L2:Hid (Bs Eq es fs):=by have:=LK.out;rw[hke,List.take_length] at this;exact this
   have O2:Hid (wr.ownsRow w.heap.size 121 2 (.slice (some ⟨w.heap.size,0,none⟩) es.length es.length) fs.length (fs.map AN).flatten):=by
    have:=OW.out
    rw[hke,Nat.sub_self,List.replicate_zero,List.append_nil] at this
    show World.ownsRow _ _ _ _ _ _ _
    rw[←L2.out.1]
    exact this
   clear LK OW;go_wp2;go_ret;exact⟨_,rfl,fs,L2.out,O2.out,BW.out⟩
end
section
open Go.RowKit

def OG {ε :Type} (cs: ε ->List Value) (Own:Nat->World-> ε ->Prop) (T K base:Nat) (w:World) (v:Value) (fs:List ε):Prop:=w.ownsRow base T K v fs.length (fs.map cs).flatten/\∀f∈fs,Own base w f
def Sh {ε :Type} (_:Nat) (_:World) (_: ε):Prop:=True
structure U2 {ε :Type} (Own:Nat->World-> ε ->Prop):Prop where
 below:∀b w u e,Own b w e->Below w.heap.size w u->Own b u e
 low:∀b b' w e,Own b w e->b' <=b->Own b' w e
 but:∀b R w u e,Own b w e->Chg (fun g=>g=R) w u->R<b->Own b u e
def UZ (n:Nat) (w:World) (base:Nat) (W:WrV) (D:Wd):Prop:=
 OG Ax (SJ n) 73 23 base w W.nv D.ns/\OG AU (Sq n) 87 15 base w W.rv D.rs/\OG AM Sh 117 5 base w W.cv D.cs/\w.ownsRow base 141 4 W.av D.ds.length (Au D.ds)/\OG AN Sh 121 2 base w W.lv D.ls
def TW (w:World) (A C:Array Value) (u:World):Prop:=Below w.heap.size w u/\w.heap.size+3<=u.heap.size/\u.heap[w.heap.size]? =some (.cells A 28 (0,0))/\u.heap[w.heap.size+1]? =some (.cells #[.int .i64 0, .slice none 0 0, .slice none 0 0, .slice none 0 0, .slice none 0 0, .slice none 0 0] 37 (0,0))/\u.heap[w.heap.size+1+1]? =some (.cells C 37 (0,0))
theorem TW.step {w u u' :World} {A C:Array Value} (h:TW w A C u) (hb:Below u.heap.size u u'):TW w A C u' :=⟨Below.and h.1 hb,Nat.le_trans h.2.1 hb.size,Ad h.2.2.1 hb,Ad h.2.2.2.1 hb,Ad h.2.2.2.2 hb⟩
theorem TW.sets {w u u' :World} {A C C' :Array Value} (h:TW w A C u) (hc:Chg (fun g=>g=w.heap.size+1+1) u u') (h2:u'.heap[w.heap.size+1+1]? =some (.cells C' 37 (0,0))):TW w A C' u':=
 ⟨h.1.trans (hc.below (fun g _ hg=>by omega) h.1.size),Nat.le_trans h.2.1 hc.size,Al h.2.2.1 hc (by omega),Al h.2.2.2.1 hc (by omega),h2⟩
theorem TW.set {w u:World} {A C:Array Value} (h:TW w A C u) (i:Nat) (v:Value):TW w A (C.setIfInBounds i v) (u.setCell ⟨w.heap.size+1+1,i,none⟩ v)/\Chg (fun g=>g=w.heap.size+1+1) u (u.setCell ⟨w.heap.size+1+1,i,none⟩ v):=by
 have hc:=(Chg.refl (fun g=>g=w.heap.size+1+1) u).setAt (w.heap.size+1+1) i rfl v
 exact⟨h.sets hc (Aq i v h.2.2.2.2),hc⟩
end
section
open Go.RowKit

theorem DQ.set1 {K:Nat}:∀ {ls:List (List Value)},DQ K ls->∀(i:Nat) (h:i<ls.length) (q:Nat),q<K->∀(v:Value),ls.flatten.set (i*K+q) v=(ls.set i (ls[i].set q v)).flatten
 |[],_,i,h,_,_,_=>by simp at h
 |a::l,hk,0,_,q,hq,v=>by
  have ha:=hk a (by simp)
  rw[Nat.zero_mul,Nat.zero_add,List.flatten_cons,List.set_append_left _ _ (by rw[ha];exact hq)]
  rfl
 |a::l,hk,i+1,h,q,hq,v=>by
  have ha:=hk a (by simp)
  rw[List.flatten_cons,List.set_append_right _ _ (by rw[ha,Nat.succ_mul];omega),ha,show(i+1)*K+q-K=i*K+q by rw[Nat.succ_mul];omega]
  have ih:=DQ.set1 (K:=K) (ls:=l) (fun x hx=>hk x (by simp[hx])) i (by simpa using h) q hq v
  rw[ih]
  rfl
def FY (fin cs:Nat->List Value) (c:List Value) (m j:Nat):List (List Value):=(List.range m).map fun i=>if i<j then fin i else if i=j then c else cs i
theorem Mj (fin cs:Nat->List Value) (c:List Value) (m j:Nat):(FY fin cs c m j).length=m:=by simp[FY]
theorem Mb {fin cs:Nat->List Value} {c:List Value} {m j K:Nat} (h1:∀i,(fin i).length=K) (h2:∀i,(cs i).length=K) (h3:c.length=K):DQ K (FY fin cs c m j):=fun l hl=>by
 obtain⟨i,_,rfl⟩:=List.mem_map.1 hl
 split
 ·exact h1 i
 ·split
  ·exact h3
  ·exact h2 i
theorem Ov {fin cs:Nat->List Value} {c:List Value} {m j:Nat} (h:j<(FY fin cs c m j).length):(FY fin cs c m j)[j]=c:=by simp[FY]
theorem Qs {fin cs:Nat->List Value} {c d:List Value} {m j:Nat}:(FY fin cs c m j).set j d=FY fin cs d m j:=by
 apply List.ext_getElem
 ·simp[FY]
 ·intro i h1 h2;rw[List.getElem_set]
  split
  ·subst_vars;simp[FY]
  ·rename_i h
   simp only[FY,List.getElem_map,List.getElem_range]
   rw[if_neg (Ne.symm h),if_neg (Ne.symm h)]
theorem Ps {fin cs:Nat->List Value} {m j:Nat}:FY fin cs (fin j) m j=FY fin cs (cs (j+1)) m (j+1):=by
 apply List.map_congr_left
 intro i _;by_cases h1:i<j
 ·rw[if_pos h1,if_pos (by omega)]
 ·by_cases h2:i=j
  ·subst h2;rw[if_neg h1,if_pos rfl,if_pos (by omega)]
  ·rw[if_neg h1,if_neg h2,if_neg (by omega)]
   split
   ·subst_vars;rfl
   ·rfl
theorem E9 {fin cs:Nat->List Value} {m:Nat}:FY fin cs (cs 0) m 0=(List.range m).map cs:=by
 apply List.map_congr_left
 intro i _;rw[if_neg (by omega)]
 split
 ·subst_vars;rfl
 ·rfl
theorem Ew {fin cs:Nat->List Value} {c:List Value} {m:Nat}:FY fin cs c m m=(List.range m).map fin:=by
 apply List.map_congr_left
 intro i hi;rw[if_pos (List.mem_range.1 hi)]

structure Fam (F:Nat->Nat->Nat->Prop) (P Q:Nat->Nat->World->Prop) (g m:Nat):Prop where
 dis:∀i r i' r' b,i<m->i' < m->F i r b->F i' r' b->i=i' ∧r=r'
 off:∀i r b,i<m->F i r b->b≠g
 kP:∀i r (S:Nat->Prop) w w',i<m->P i r w->Chg S w w' ->(∀b,F i r b->¬S b)->P i r w'
 kQ:∀i r (S:Nat->Prop) w w',i<m->Q i r w->Chg S w w' ->(∀b,F i r b->¬S b)->Q i r w'
structure StM (F:Nat->Nat->Nat->Prop) (P Q:Nat->Nat->World->Prop) (fin cs:Nat->List Value) (ty K g m cap:Nat) (w0:World) (j s:Nat) (c:List Value) (W:World):Prop where
 own:W.ownsRow 0 ty K (.slice (some ⟨g,0,none⟩) m cap) m (FY fin cs c m j).flatten
 len:c.length=K
 done:∀i r,i<m->(i<j∨(i=j/\r<s))->Q i r W
 rest:∀i r,i<m->¬(i<j∨(i=j/\r<s))->P i r W
 chg:Chg (fun b=>b=g∨∃i r,i<m/\F i r b) w0 W

section
variable {F:Nat->Nat->Nat->Prop} {P Q:Nat->Nat->World->Prop} {fin cs:Nat->List Value} {ty K g m cap:Nat} {w0:World} {j s:Nat} {c:List Value} {W W' :World}

theorem StM.cell (h:StM F P Q fin cs ty K g m cap w0 j s c W) (hf:(∀i,(fin i).length=K)/\∀i,(cs i).length=K) (hj:j<m) (q:Nat) (hq:q<K):W.cell? ⟨g,j*K+q,none⟩=c[q]? :=by
 have hle:j*K+K<=m*K:=by rw[←Nat.succ_mul];exact Nat.mul_le_mul_right _ hj
 rw[h.own.cellAt (j*K+q) (by omega),(Mb hf.1 hf.2 h.len).at j (by rw[Mj];exact hj) q hq,Ov]
theorem StM.frozen (h:StM F P Q fin cs ty K g m cap w0 j s c W) (q:Nat):W.frozen? ⟨g,j*K+q,none⟩=false:=h.own.frozenAt _
theorem StM.put (fam:Fam F P Q g m) (h:StM F P Q fin cs ty K g m cap w0 j s c W) (hf:(∀i,(fin i).length=K)/\∀i,(cs i).length=K) (hj:j<m) (q:Nat) (hq:q<K) (v:Value):StM F P Q fin cs ty K g m cap w0 j s (c.set q v) (W.setCell ⟨g,j*K+q,none⟩ v):=by
 have hc:Chg (fun b=>b=g) W (W.setCell ⟨g,j*K+q,none⟩ v):=(Chg.refl (fun b=>b=g) W).setAt g (j*K+q) rfl _
 have ho:=(h.own.stored (j*K+q) v).1
 rw[(Mb hf.1 hf.2 h.len).set1 j (by rw[Mj];exact hj) q hq v,Ov,Qs] at ho
 exact⟨ho,by rw[List.length_set];exact h.len,fun i r hi hd=>fam.kQ i r _ _ _ hi (h.done i r hi hd) hc (fun b hb e=>fam.off i r b hi hb e),fun i r hi hd=>fam.kP i r _ _ _ hi (h.rest i r hi hd) hc (fun b hb e=>fam.off i r b hi hb e),h.chg.trans hc (fun b _ e=> .inl e)⟩
theorem StM.now (h:StM F P Q fin cs ty K g m cap w0 j s c W) (hj:j<m):P j s W:=h.rest j s hj (by omega)
theorem StM.call (fam:Fam F P Q g m) (h:StM F P Q fin cs ty K g m cap w0 j s c W) (hj:j<m) (hq:Q j s W') (hc:Chg (F j s) W W'):StM F P Q fin cs ty K g m cap w0 j (s+1) c W' :=by
 refine⟨?_,h.len,fun i r hi hd=> ?_,fun i r hi hd=> ?_,h.chg.trans hc (fun b _ e=> .inr ⟨j,s,hj,e⟩)⟩
 ·exact Cw h.own hc (fun b hb e=>fam.off j s b hj e (by simp[Value.ownBlock] at hb;exact hb.symm))
 ·by_cases h1:i<j∨(i=j/\r<s)
  ·exact fam.kQ i r _ _ _ hi (h.done i r hi h1) hc (fun b hb e=>by
    have:=fam.dis i r j s b hi hj hb e
    omega)
  ·have h2:i=j/\r=s:=by omega
   rw[h2.1,h2.2]
   exact hq
 ·exact fam.kP i r _ _ _ hi (h.rest i r hi (by omega)) hc (fun b hb e=>by
   have:=fam.dis i r j s b hi hj hb e
   omega)
theorem StM.next (h:StM F P Q fin cs ty K g m cap w0 j s c W) (hc:c=fin j) (hl:(cs (j+1)).length=K) (hs:∀i r W,s<=r->i<m->Q i r W):StM F P Q fin cs ty K g m cap w0 (j+1) 0 (cs (j+1)) W:=by
 subst hc;exact⟨by rw[←Ps];exact h.own,hl,fun i r hi hd=>by
  by_cases h1:i<j∨(i=j/\r<s)
  ·exact h.done i r hi h1
  ·exact hs i r W (by omega) hi,fun i r hi hd=>h.rest i r hi (by omega),h.chg⟩
end
end
section
open Go.RowKit

abbrev mrk (k:Int):Bool:=k%3==0
def AG (k:Int) (n:Nat):DL:=(List.range n).map fun (i:Nat)=>(k+4*i,k+4*i+1,k+4*i+1+1,mrk (k+4*i+1+1+1))
theorem A9 (k:Int) (n:Nat):(AG k n).length=n:=by simp[AG]
theorem Ma (k:Int) (n:Nat):AG k (n+1)=AG k n++[(k+4*n,k+4*n+1,k+4*n+1+1,mrk (k+4*n+1+1+1))]:=by simp[AG,List.range_succ]
theorem FA (k:Int) (n i:Nat) (h:i<n):dC (AG k n) i=k+4*i/\dS (AG k n) i=k+4*i+1/\dV (AG k n) i=k+4*i+1+1/\dH (AG k n) i=mrk (k+4*i+1+1+1):=by
 simp[AG,dC,dS,dV,dH,List.getD,h]
def Ft (k:Int) (l:DL) (i:Nat):DL:=AG k i++l.drop i
theorem Le (k:Int) (l:DL) (i:Nat) (h:i<=l.length):(Ft k l i).length=l.length:=by simp[Ft,A9];omega
theorem Qb (k:Int) (l:DL):Ft k l 0=l:=by simp[Ft,AG]
theorem Pr (k:Int) (l:DL):Ft k l l.length=AG k l.length:=by simp[Ft]
theorem Pa (k:Int) (l:DL) (i:Nat) (h:i<l.length):(Ft k l i).set i (k+4*i,k+4*i+1,k+4*i+1+1,mrk (k+4*i+1+1+1))=Ft k l (i+1):=by
 rw[Ft,Ft,Ma,List.drop_eq_getElem_cons h,List.set_append_right _ _ (by rw[A9];omega),A9,Nat.sub_self,List.set_cons_zero]
 simp
theorem JE {w:World} {base e size n cap:Nat} {a:Option Addr} {xs:List Value} (h:w.ownsRow base e size (.slice a n cap) n xs):cap<=maxLen:=by
 obtain⟨_,⟨e,_⟩|⟨g,cap',cur,e,_,_,_,hc,_⟩⟩:=h
 ·simp at e;rw[e.2.2];exact Nat.zero_le _
 ·simp at e;rw[e.2];exact hc

theorem I3 (v:Value) (l:DL) (k:Int) (w:World) (h:w.ownsRow 0 141 4 v l.length (Au l)) (hn:l.length<=67108864) (hk0:0<=k) (hk1:k<=671088640) :
  Calls Tryz.prog 43 #[v, .int .i64 k] w fun e w' =>e= .returned (.int .i64 (k+4*l.length))/\w'.ownsRow 0 141 4 v l.length (Au (AG k l.length))/\Chg (fun g=>v.ownBlock=some g) w w' :=by
 obtain⟨a,cap,hv⟩:=BQ h
 have OW:Hid (w.ownsRow 0 141 4 v l.length (Au l)):=h
 clear h;rw[hv] at OW ⊢
 clear hv;have hcap:=JE OW.out
 unfold maxLen at hcap;go_enter Tryz.func43,Tryz.ntmps43
 go_wp2;go_loopw [1,5] (fun kk i wr=>∃j:Nat,j<=l.length/\i= .int .i64 j/\kk= .int .i64 (k+4*j)/\wr.ownsRow 0 141 4 (.slice a l.length cap) l.length (Au (Ft k l j))/\Chg (fun g=>(Value.slice a l.length cap).ownBlock=some g) w wr)
  (fun _ i _=>l.length-(intOf i).toNat)
 case atStart=>exact⟨0,Nat.zero_le _,rfl,by simp,by rw[Qb];exact OW.out,Chg.refl _ _⟩
 case round=>
  obtain⟨j,hj,rfl,rfl,hown,hch⟩:=hrel
  by_cases hlt:j<l.length
  ·have hex:∃g,a=some ⟨g,0,none⟩:=by
    obtain⟨_,⟨e,e2⟩|⟨g,cap',cur,e,_⟩⟩:=hown
    ·omega
    ·simp at e;exact⟨g,e.1⟩
   obtain⟨g,rfl⟩:=hex
   have hml:(Ft k l j).length=l.length:=Le k l j hj
   have hat:=DG (Ft k l j) j (by omega)
   have e0:=(hown.cellAt (j*4) (by omega)).trans hat.1
   have f0:=hown.frozenAt (j*4)
   have e1:=(hown.cellAt (j*4+1) (by omega)).trans hat.2.1
   have f1:=hown.frozenAt (j*4+1)
   have e2:=(hown.cellAt (j*4+2) (by omega)).trans hat.2.2.1
   have f2:=hown.frozenAt (j*4+2)
   have e3:=(hown.cellAt (j*4+3) (by omega)).trans hat.2.2.2
   have f3:=hown.frozenAt (j*4+3)
   have st0:=(hown.stored (j*4) (.int .i64 (k+4*j))).1
   have st1:=(st0.stored (j*4+1) (.int .i64 (k+4*j+1))).1
   have st2:=(st1.stored (j*4+2) (.int .i64 (k+4*j+1+1))).1
   have st3:=(st2.stored (j*4+3) (.bool (mrk (k+4*j+1+1+1)))).1
   rw[Jx _ _ _ _ _ j (by omega),Pa k l j hlt] at st3
   have hch2:Chg (fun g' =>(Value.slice (some ⟨g,0,none⟩) l.length cap).ownBlock=some g') w ((((wr.setCell ⟨g,j*4,none⟩ (.int .i64 (k+4*j))).setCell ⟨g,j*4+1,none⟩ (.int .i64 (k+4*j+1))).setCell ⟨g,j*4+2,none⟩ (.int .i64 (k+4*j+1+1))).setCell ⟨g,j*4+3,none⟩ (.bool (mrk (k+4*j+1+1+1)))):=(((hch.setAt g (j*4) rfl _).setAt g (j*4+1) rfl _).setAt g (j*4+2) rfl _).setAt g (j*4+3) rfl _
   generalize dC (Ft k l j) j=x0 at *
   generalize dS (Ft k l j) j=x1 at *
   generalize dV (Ft k l j) j=x2 at *
   generalize dH (Ft k l j) j=x3 at *
   have ST:Hid _:=And.intro st3 hch2
   clear st0 st1 st2 st3 hch2 hown hch hml hat OW;have hb0:0<=k+4*(j:Int):=by omega
   have hb1:k+4*(j:Int)<=10000000000:=by omega
   go_wp2;go_roundw
   case rel=>exact⟨j+1,by omega,by go_num,by go_num,ST.out.1,ST.out.2⟩
   case measure=>simp[intOf];omega
  ·have hjl:j=l.length:=by omega
   subst hjl;go_wp2;go_ret;rw[Pr] at hown
   exact⟨rfl,hown,hch⟩

theorem DE (v:Value) (n:Nat) (k:Int) (w:World) (h:Row w v n (Au (AG k n))) (hn:n<=67108864) (hk0:0<=k) (hk1:k<=671088640) :
  Calls Tryz.prog 53 #[v, .int .i64 k] w fun e w' =>e= .returned (.int .i64 (k+4*n))/\w' =w:=by
 have h' :Row w v (AG k n).length (Au (AG k n)):=by rw[A9];exact h
 obtain⟨a,b,off,cap,rfl,hcap,hmax,ha,h10,h11,h12,h13⟩:=h'.dones
 rw[A9] at *
 unfold maxLen at hmax;clear h h';go_enter Tryz.func53,Tryz.ntmps53
 go_wp2;go_loop [1,5] (fun kk i=>∃j:Nat,j<=n/\i= .int .i64 j/\kk= .int .i64 (k+4*j)) (fun _ i=>n-(intOf i).toNat)
 case atStart=>exact⟨0,Nat.zero_le _,rfl,by simp⟩
 case round=>
  obtain⟨j,hj,rfl,rfl⟩:=hrel
  by_cases hlt:j<n
  ·have hal:=ha (by omega)
   subst hal;have d0:w.cell? ⟨b,off+j*4,none⟩=some (.int .i64 (k+4*j)):=by rw[h10 j hlt,(FA k n j hlt).1]
   have d1:w.cell? ⟨b,off+j*4+1,none⟩=some (.int .i64 (k+4*j+1)):=by rw[h11 j hlt,(FA k n j hlt).2.1]
   have d2:w.cell? ⟨b,off+j*4+2,none⟩=some (.int .i64 (k+4*j+1+1)):=by rw[h12 j hlt,(FA k n j hlt).2.2.1]
   have d3:w.cell? ⟨b,off+j*4+3,none⟩=some (.bool (mrk (k+4*j+1+1+1))):=by rw[h13 j hlt,(FA k n j hlt).2.2.2]
   clear h10 h11 h12 h13;have hb0:0<=k+4*(j:Int):=by omega
   have hb1:k+4*(j:Int)<=10000000000:=by omega
   by_cases hm:(k+4*(j:Int)+1+1+1)%3=0
   ·have hm2:mrk (k+4*(j:Int)+1+1+1)=true:=by simp[mrk,hm]
    rw[hm2] at d3
    have hm3:((k+4*(j:Int)+1+1+1)%3==0)=true:=hm2
    go_wp2;go_round
    case rel=>exact⟨j+1,by omega,by go_num,by go_num⟩
    case measure=>simp[intOf];omega
   ·have hm2:mrk (k+4*(j:Int)+1+1+1)=false:=by simp[mrk,hm]
    rw[hm2] at d3
    have hm3:((k+4*(j:Int)+1+1+1)%3==0)=false:=hm2
    go_wp2;go_round
    case rel=>exact⟨j+1,by omega,by go_num,by go_num⟩
    case measure=>simp[intOf];omega
  ·have hjl:j=n:=by omega
   subst hjl;go_wp2;go_ret;exact⟨rfl,rfl⟩
end
section
open Go.RowKit

def BI (k:Int) (n:Nat):List Bool:=(List.range n).map fun (i:Nat)=>mrk (k+i)
theorem BM (k:Int) (n:Nat):(BI k n).length=n:=by simp[BI]
theorem LL (k:Int) (n:Nat):BI k (n+1)=BI k n++[mrk (k+n)]:=by simp[BI,List.range_succ]
theorem PJ (k:Int) (n i:Nat) (h:i<n):bOf (BI k n) i=mrk (k+i):=by simp[BI,bOf,List.getD,h]
def Hc (k:Int) (l:List Bool) (i:Nat):List Bool:=BI k i++l.drop i
theorem Mi (k:Int) (l:List Bool) (i:Nat) (h:i<=l.length):(Hc k l i).length=l.length:=by simp[Hc,BM];omega
theorem OH (k:Int) (l:List Bool):Hc k l 0=l:=by simp[Hc,BI]
theorem Px (k:Int) (l:List Bool):Hc k l l.length=BI k l.length:=by simp[Hc]
theorem Pf (k:Int) (l:List Bool) (i:Nat) (h:i<l.length):(Hc k l i).set i (mrk (k+i))=Hc k l (i+1):=by
 rw[Hc,Hc,LL,List.drop_eq_getElem_cons h,List.set_append_right _ _ (by rw[BM];omega),BM,Nat.sub_self,List.set_cons_zero]
 simp

theorem KZ (v:Value) (l:List Bool) (k:Int) (w:World) (h:w.ownsRow 0 4 1 v l.length (AJ l)) (hn:l.length<=67108864) (hk0:0<=k) (hk1:k<=671088640) :
  Calls Tryz.prog 73 #[v, .int .i64 k] w fun e w' =>e= .returned (.int .i64 (k+l.length))/\w'.ownsRow 0 4 1 v l.length (AJ (BI k l.length))/\Chg (fun g=>v.ownBlock=some g) w w' :=by
 obtain⟨a,cap,hv⟩:=BQ h
 have OW:Hid (w.ownsRow 0 4 1 v l.length (AJ l)):=h
 clear h;rw[hv] at OW ⊢
 clear hv;have hcap:=JE OW.out
 unfold maxLen at hcap;go_enter Tryz.func73,Tryz.ntmps73
 go_wp2;go_loopw [1,5] (fun kk i wr=>∃j:Nat,j<=l.length/\i= .int .i64 j/\kk= .int .i64 (k+j)/\wr.ownsRow 0 4 1 (.slice a l.length cap) l.length (AJ (Hc k l j))/\Chg (fun g=>(Value.slice a l.length cap).ownBlock=some g) w wr)
  (fun _ i _=>l.length-(intOf i).toNat)
 case atStart=>exact⟨0,Nat.zero_le _,rfl,by simp,by rw[OH];exact OW.out,Chg.refl _ _⟩
 case round=>
  obtain⟨j,hj,rfl,rfl,hown,hch⟩:=hrel
  by_cases hlt:j<l.length
  ·have hex:∃g,a=some ⟨g,0,none⟩:=by
    obtain⟨_,⟨e,e2⟩|⟨g,cap',cur,e,_⟩⟩:=hown
    ·omega
    ·simp at e;exact⟨g,e.1⟩
   obtain⟨g,rfl⟩:=hex
   have hml:(Hc k l j).length=l.length:=Mi k l j hj
   have hat:=Mq (Hc k l j) j (by omega)
   have e0:=(hown.cellAt j (by omega)).trans hat
   have f0:=hown.frozenAt j
   have st0:=(hown.stored j (.bool (mrk (k+j)))).1
   rw[Pb,Pf k l j hlt] at st0
   have hch2:Chg (fun g' =>(Value.slice (some ⟨g,0,none⟩) l.length cap).ownBlock=some g') w (wr.setCell ⟨g,j,none⟩ (.bool (mrk (k+j)))):=hch.setAt g j rfl _
   generalize bOf (Hc k l j) j=x0 at *
   have ST:Hid _:=And.intro st0 hch2
   clear st0 hch2 hown hch hml hat OW;have hb0:0<=k+(j:Int):=by omega
   have hb1:k+(j:Int)<=10000000000:=by omega
   go_wp2;go_roundw
   case rel=>exact⟨j+1,by omega,by go_num,by go_num,ST.out.1,ST.out.2⟩
   case measure=>simp[intOf];omega
  ·have hjl:j=l.length:=by omega
   subst hjl;go_wp2;go_ret;rw[Px] at hown
   exact⟨rfl,hown,hch⟩

theorem I9 (v:Value) (n:Nat) (k:Int) (w:World) (h:Row w v n (AJ (BI k n))) (hn:n<=67108864) (hk0:0<=k) (hk1:k<=671088640) :
  Calls Tryz.prog 95 #[v, .int .i64 k] w fun e w' =>e= .returned (.int .i64 (k+n))/\w' =w:=by
 have h' :Row w v (BI k n).length (AJ (BI k n)):=by rw[BM];exact h
 obtain⟨a,b,off,cap,rfl,hcap,hmax,ha,h10⟩:=h'.bools
 rw[BM] at *
 unfold maxLen at hmax;clear h h';go_enter Tryz.func95,Tryz.ntmps95
 go_wp2;go_loop [1,5] (fun kk i=>∃j:Nat,j<=n/\i= .int .i64 j/\kk= .int .i64 (k+j)) (fun _ i=>n-(intOf i).toNat)
 case atStart=>exact⟨0,Nat.zero_le _,rfl,by simp⟩
 case round=>
  obtain⟨j,hj,rfl,rfl⟩:=hrel
  by_cases hlt:j<n
  ·have hal:=ha (by omega)
   subst hal;have d0:w.cell? ⟨b,off+j,none⟩=some (.bool (mrk (k+j))):=by rw[h10 j hlt,PJ k n j hlt]
   clear h10;have hb0:0<=k+(j:Int):=by omega
   have hb1:k+(j:Int)<=10000000000:=by omega
   by_cases hm:(k+(j:Int))%3=0
   ·have hm2:mrk (k+(j:Int))=true:=by simp[mrk,hm]
    rw[hm2] at d0
    have hm3:((k+(j:Int))%3==0)=true:=hm2
    go_wp2;go_round
    case rel=>exact⟨j+1,by omega,by go_num,by go_num⟩
    case measure=>simp[intOf];omega
   ·have hm2:mrk (k+(j:Int))=false:=by simp[mrk,hm]
    rw[hm2] at d0
    have hm3:((k+(j:Int))%3==0)=false:=hm2
    go_wp2;go_round
    case rel=>exact⟨j+1,by omega,by go_num,by go_num⟩
    case measure=>simp[intOf];omega
  ·have hjl:j=n:=by omega
   subst hjl;go_wp2;go_ret;exact⟨rfl,rfl⟩
end
end Go.Proofs.YtkcaelfkcepdkaaGreat
