/-
  toNodeS, toRpcS: what comes lies in memory of its own, each element in a stretch of blocks.
  The laws' functions that write marks into rows of commands and of Leads, and look for them.
-/
import Derived.Test.YtkcaelfkcepdkaaGreatOfNote11
import Derived.Test.YtkcaelfkcepdkaaGreatOfNote25
import Derived.Test.YtkcaelfkcepdkaaGreatOfNote26
import Derived.Test.YtkcaelfkcepdkaaGreatOfNote27
import Derived.Test.YtkcaelfkcepdkaaGreatOfNote24
namespace Go.Proofs.YtkcaelfkcepdkaaGreat
set_option maxRecDepth 100000
set_option maxHeartbeats 8000000
section
open Go.RowKit

theorem OS (n:Nat) (v:Value) (es:List BH) (w:World) (h:Cr Ax (Du n) w v es) (hs:∀e∈es,e.2.small n) (hn:es.length<=1048576) :
  Calls Tryz.prog 29 #[v] w fun e w' =>∃(v' :Value) (fs:List BH),e= .returned v' ∧Bs Dv es fs/\LsI Ax (Fi n) Ap 73 23 w' w.heap.size w'.heap.size v' fs/\Below w.heap.size w w' :=by
 obtain⟨a,b,off,cap,rfl,hcap,hmax,ha,rg⟩:=h.parts (K:=23) (fun _=>rfl)
 obtain⟨i0,hi,hz0,hz1,hz2⟩:=info_parts (show(Tryz.prog.info? 73).map (fun i=>(i.zero,i.size,i.bytes))=some (some (.agg Kr.toArray),23,408) by kernel_rfl)
 unfold maxLen at hmax;have TO:=hq (fun u i (hi:i<es.length) (hu:Below w.heap.size w u)=>H7 n es[i].1 es[i].2 u ((h.2 _ (List.getElem_mem hi)).below hu) (hs _ (List.getElem_mem hi)))
 have RG:=hq rg
 have HA:=hq ha
 clear h rg ha hs;go_enter Tryz.func29,Tryz.ntmps29
 go_wp2_with (at_make;refine wpList_make_full _ rfl _ _ 31 rfl w.heap.size 73 i0 _ 23 Tryz.underlying31 hi hz0 hz1 .i64 .i64 _ _ es.length rfl rfl rfl rfl ?c1 ?c2 ?c3 ?_)
 case c1=>rw[hz2];omega
 case c2=>unfold maxLen;omega
 case c3=>exact Nat.le_refl _
 intro w0 hown0 hgrow0;have B0:=hq ((Below.refl w.heap.size w).grown hgrow0 (Nat.le_refl _) (fun k hk=>by cases hk))
 have O0:Hid (w0.ownsRow w.heap.size 73 23 (.slice (some ⟨w.heap.size,0,none⟩) es.length es.length) es.length (List.replicate es.length Kr).flatten):=by
  show World.ownsRow _ _ _ _ _ _ _
  rw[←FD Kr 23 rfl (by decide) es.length]
  exact hown0
 have H0:Hid (w.heap.size<w0.heap.size):=by
  obtain⟨_,h2⟩:=O0.out
  rcases h2 with⟨h2,_⟩|⟨g,_,cur,hv,_,hg,_⟩
  ·cases h2
  ·simp only[Value.slice.injEq,Option.some.injEq,Addr.mk.injEq,true_and,and_true] at hv
   rw[hv.1]
   exact(Array.getElem?_eq_some_iff.1 hg).1
 clear hgrow0 hown0 hi hz0 hz1 hz2;go_wp2;go_loopw [4] (fun i wr=>∃(k:Nat) (fs:List BH),k<=es.length/\i= .int .i64 k/\Hid (Bs Dv (es.take k) fs)/\Hid (wr.ownsRow w.heap.size 73 23 (.slice (some ⟨w.heap.size,0,none⟩) es.length es.length) es.length (fs.map Ax++List.replicate (es.length-k) Kr).flatten)/\Hid (E8 (Fi n) Ap wr (w.heap.size+1) wr.heap.size (.slice (some ⟨w.heap.size,0,none⟩) es.length es.length) fs)/\Hid (Below w.heap.size w wr)/\Hid (w.heap.size<wr.heap.size))
  (fun i _=>es.length-(intOf i).toNat)
 case atStart=>exact⟨0,[],Nat.zero_le _,rfl,⟨by simp,fun i h=>by simp at h⟩,O0.out,E8.nil _ _ _ _ _ _,B0.out,H0.out⟩
 case round=>
  obtain⟨k,fs,hk,rfl,LK,OW,OE,BW,HW⟩:=hrel
  clear O0 B0 H0;by_cases hlt:k<es.length
  ·have hal:=HA.out (by omega)
   subst hal;have hi2:(k:Int)<(es.length:Int):=by omega
   have RU:=hq (RG.out wr BW.out k hlt)
   go_wp2_with (refine wpList_load_mid rfl 59 _ rfl b (off+k*23) rfl (Ax es[k]) _ RU.out Tryz.underlying59 rfl (show(Tryz.prog.info? 59).map (·.size)=some 23 by kernel_rfl) ?_)
   refine(TO.out wr k hlt BW.out).mono ?_
   rintro e w1 ⟨M,rfl,hlk,ho,b1⟩
   have hfl:fs.length=k:=by have:=LK.out.1;rw[List.length_take] at this;omega
   have LK2:=hq (Bs.snoc hlt (y:=(M,es[k].2)) LK.out ⟨hlk,rfl⟩)
   have AK:DQ 23 (fs.map Ax++List.replicate (es.length-k) Kr):=fun l hl=>by
    rcases List.mem_append.1 hl with h1|h1
    ·exact B8 (K:=23) (fun _=>rfl) fs l h1
    ·rw[(List.mem_replicate.1 h1).2];rfl
   obtain⟨cc,hcc⟩:∃cc:List Value,cc=Ax (M,es[k].2):=⟨_,rfl⟩
   have hcl:cc.length=23:=by rw[hcc];rfl
   have VE:M.val= .agg cc.toArray:=by rw[hcc];rfl
   rw[VE]
   clear VE;have PU:=EO (Bc OW.out b1) (by simp[hfl];omega) AK k hlt cc hcl
   have TH:Hid (w1.there w.heap.size (k*23) cc.toArray.size):=by show World.there _ _ _ cc.length;rw[hcl];exact PU.2
   have ES:(fs.map Ax++List.replicate (es.length-k) Kr).set k cc=(fs++[(M,es[k].2)]).map Ax++List.replicate (es.length-(k+1)) Kr:=by
    rw[show es.length-k=(es.length-(k+1))+1 by omega,List.replicate_succ,List.set_append_right _ _ (by simp[hfl]),List.length_map,hfl,Nat.sub_self,List.set_cons_zero,List.map_append,hcc]
    simp
   have P1:=PU.1
   rw[ES] at P1
   have OW2:=hq P1
   have GC:Chg (fun g=>g=w.heap.size) w1 (w1.setCells w.heap.size (k*23) cc):=Chg.setCells (F:=fun b=>b=w.heap.size) (g:=w.heap.size) (fun _=>rfl) _ _ w1 (Chg.refl _ _)
   have BW2:=hq ((Below.and BW.out b1).trans (GC.below (fun g hg e=>by omega) (Below.and BW.out b1).size))
   have HW2:Hid (w.heap.size<(w1.setCells w.heap.size (k*23) cc).heap.size):=Nat.lt_of_lt_of_le (Nat.lt_of_lt_of_le HW.out b1.size) GC.size
   have SB:=b1.size
   have OE2:Hid (E8 (Fi n) Ap (w1.setCells w.heap.size (k*23) cc) (w.heap.size+1) (w1.setCells w.heap.size (k*23) cc).heap.size (.slice (some ⟨w.heap.size,0,none⟩) es.length es.length) (fs++[(M,es[k].2)])):=by
    have hz:=GC.size
    have hw:=HW.out
    have q1:=(OE.out.chg (BC n) (Chg.of_below (F:=fun _=>False) b1) (fun _ _ _ _ e=>e)).chg (BC n) GC (fun g g1 _ _ e=>by omega)
    exact q1.snoc (x:=wr.heap.size) (y:=w1.heap.size) (by omega) (Nat.le_refl _) SB hz (BC n _ _ _ _ _ _ (Ck.own ho.h) GC (fun g g1 _ e=>by omega)) (fun g _ _ h=>h) (fun g g1 _ e=>by
     obtain⟨_,_,e,_⟩:=e
     simp only[Value.slice.injEq,Option.some.injEq,Addr.mk.injEq] at e
     omega)
   have ONE:Hid (cc.toArray.all (·.oneCell')=true):=by rw[hcc];exact ho.at.ones
   have HM:Hid ((Tryz.prog.info? 73).map (·.size)=some cc.toArray.size):=by show _=some cc.length;rw[hcl];exact(show(Tryz.prog.info? 73).map (·.size)=some 23 by kernel_rfl)
   clear hcc hcl PU P1 GC AK ES b1 hlk ho OW LK BW HW OE SB;go_wp2_with (refine wpList_store_mid rfl 73 _ _ rfl w.heap.size (k*23) cc.toArray rfl rfl TH.out HM.out ONE.out ?_)
   generalize w1.setCells w.heap.size (k*23) cc=W2 at *
   go_roundw
   case rel=>exact⟨k+1,fs++[(M,es[k].2)],by omega,by go_num,LK2.out,OW2.out,OE2.out,BW2.out,HW2.out⟩
   case measure=>simp[intOf];omega
  ·have hi2:¬(k:Int)<(es.length:Int):=by omega
   have hke:k=es.length:=by omega
   have L2:Hid (Bs Dv es fs):=by have:=LK.out;rw[hke,List.take_length] at this;exact this
   have O2:Hid (wr.ownsRow w.heap.size 73 23 (.slice (some ⟨w.heap.size,0,none⟩) es.length es.length) fs.length (fs.map Ax).flatten):=by
    have:=OW.out
    rw[hke,Nat.sub_self,List.replicate_zero,List.append_nil] at this
    show World.ownsRow _ _ _ _ _ _ _
    rw[←L2.out.1]
    exact this
   clear LK OW;go_wp2;go_ret;have hb:=HW.out
   exact⟨_,rfl,fs,L2.out,⟨.inl O2.out,fun g hg=>by
    obtain⟨_,_,e,_⟩:=hg
    simp at e
    omega,BW.out.size,Nat.le_refl _,OE.out.up (by omega) (Nat.le_refl _)⟩,BW.out⟩

theorem QN (n:Nat) (v:Value) (es:List BU) (w:World) (h:Cr AU (Dw n) w v es) (hs:∀e∈es,e.2.small n) (hn:es.length<=1048576) :
  Calls Tryz.prog 9 #[v] w fun e w' =>∃(v' :Value) (fs:List BU),e= .returned v' ∧Bs Dx es fs/\LsI AU (FQ n) Av 87 15 w' w.heap.size w'.heap.size v' fs/\Below w.heap.size w w' :=by
 obtain⟨a,b,off,cap,rfl,hcap,hmax,ha,rg⟩:=h.parts (K:=15) (fun _=>rfl)
 obtain⟨i0,hi,hz0,hz1,hz2⟩:=info_parts (show(Tryz.prog.info? 87).map (fun i=>(i.zero,i.size,i.bytes))=some (some (.agg NJ.toArray),15,216) by kernel_rfl)
 unfold maxLen at hmax;have TO:=hq (fun u i (hi:i<es.length) (hu:Below w.heap.size w u)=>Qw n es[i].1 es[i].2 u ((h.2 _ (List.getElem_mem hi)).below hu) (hs _ (List.getElem_mem hi)))
 have RG:=hq rg
 have HA:=hq ha
 clear h rg ha hs;go_enter Tryz.func9,Tryz.ntmps9
 go_wp2_with (at_make;refine wpList_make_full _ rfl _ _ 32 rfl w.heap.size 87 i0 _ 15 Tryz.underlying32 hi hz0 hz1 .i64 .i64 _ _ es.length rfl rfl rfl rfl ?c1 ?c2 ?c3 ?_)
 case c1=>rw[hz2];omega
 case c2=>unfold maxLen;omega
 case c3=>exact Nat.le_refl _
 intro w0 hown0 hgrow0;have B0:=hq ((Below.refl w.heap.size w).grown hgrow0 (Nat.le_refl _) (fun k hk=>by cases hk))
 have O0:Hid (w0.ownsRow w.heap.size 87 15 (.slice (some ⟨w.heap.size,0,none⟩) es.length es.length) es.length (List.replicate es.length NJ).flatten):=by
  show World.ownsRow _ _ _ _ _ _ _
  rw[←FD NJ 15 rfl (by decide) es.length]
  exact hown0
 have H0:Hid (w.heap.size<w0.heap.size):=by
  obtain⟨_,h2⟩:=O0.out
  rcases h2 with⟨h2,_⟩|⟨g,_,cur,hv,_,hg,_⟩
  ·cases h2
  ·simp only[Value.slice.injEq,Option.some.injEq,Addr.mk.injEq,true_and,and_true] at hv
   rw[hv.1]
   exact(Array.getElem?_eq_some_iff.1 hg).1
 clear hgrow0 hown0 hi hz0 hz1 hz2;go_wp2;go_loopw [4] (fun i wr=>∃(k:Nat) (fs:List BU),k<=es.length/\i= .int .i64 k/\Hid (Bs Dx (es.take k) fs)/\Hid (wr.ownsRow w.heap.size 87 15 (.slice (some ⟨w.heap.size,0,none⟩) es.length es.length) es.length (fs.map AU++List.replicate (es.length-k) NJ).flatten)/\Hid (E8 (FQ n) Av wr (w.heap.size+1) wr.heap.size (.slice (some ⟨w.heap.size,0,none⟩) es.length es.length) fs)/\Hid (Below w.heap.size w wr)/\Hid (w.heap.size<wr.heap.size))
  (fun i _=>es.length-(intOf i).toNat)
 case atStart=>exact⟨0,[],Nat.zero_le _,rfl,⟨by simp,fun i h=>by simp at h⟩,O0.out,E8.nil _ _ _ _ _ _,B0.out,H0.out⟩
 case round=>
  obtain⟨k,fs,hk,rfl,LK,OW,OE,BW,HW⟩:=hrel
  clear O0 B0 H0;by_cases hlt:k<es.length
  ·have hal:=HA.out (by omega)
   subst hal;have hi2:(k:Int)<(es.length:Int):=by omega
   have RU:=hq (RG.out wr BW.out k hlt)
   go_wp2_with (refine wpList_load_mid rfl 84 _ rfl b (off+k*15) rfl (AU es[k]) _ RU.out Tryz.underlying84 rfl (show(Tryz.prog.info? 84).map (·.size)=some 15 by kernel_rfl) ?_)
   refine(TO.out wr k hlt BW.out).mono ?_
   rintro e w1 ⟨M,rfl,hlk,ho,b1⟩
   have hfl:fs.length=k:=by have:=LK.out.1;rw[List.length_take] at this;omega
   have LK2:=hq (Bs.snoc hlt (y:=(M,es[k].2)) LK.out ⟨hlk,rfl⟩)
   have AK:DQ 15 (fs.map AU++List.replicate (es.length-k) NJ):=fun l hl=>by
    rcases List.mem_append.1 hl with h1|h1
    ·exact B8 (K:=15) (fun _=>rfl) fs l h1
    ·rw[(List.mem_replicate.1 h1).2];rfl
   obtain⟨cc,hcc⟩:∃cc:List Value,cc=AU (M,es[k].2):=⟨_,rfl⟩
   have hcl:cc.length=15:=by rw[hcc];rfl
   have VE:M.val= .agg cc.toArray:=by rw[hcc];rfl
   rw[VE]
   clear VE;have PU:=EO (Bc OW.out b1) (by simp[hfl];omega) AK k hlt cc hcl
   have TH:Hid (w1.there w.heap.size (k*15) cc.toArray.size):=by show World.there _ _ _ cc.length;rw[hcl];exact PU.2
   have ES:(fs.map AU++List.replicate (es.length-k) NJ).set k cc=(fs++[(M,es[k].2)]).map AU++List.replicate (es.length-(k+1)) NJ:=by
    rw[show es.length-k=(es.length-(k+1))+1 by omega,List.replicate_succ,List.set_append_right _ _ (by simp[hfl]),List.length_map,hfl,Nat.sub_self,List.set_cons_zero,List.map_append,hcc]
    simp
   have P1:=PU.1
   rw[ES] at P1
   have OW2:=hq P1
   have GC:Chg (fun g=>g=w.heap.size) w1 (w1.setCells w.heap.size (k*15) cc):=Chg.setCells (F:=fun b=>b=w.heap.size) (g:=w.heap.size) (fun _=>rfl) _ _ w1 (Chg.refl _ _)
   have BW2:=hq ((Below.and BW.out b1).trans (GC.below (fun g hg e=>by omega) (Below.and BW.out b1).size))
   have HW2:Hid (w.heap.size<(w1.setCells w.heap.size (k*15) cc).heap.size):=Nat.lt_of_lt_of_le (Nat.lt_of_lt_of_le HW.out b1.size) GC.size
   have SB:=b1.size
   have OE2:Hid (E8 (FQ n) Av (w1.setCells w.heap.size (k*15) cc) (w.heap.size+1) (w1.setCells w.heap.size (k*15) cc).heap.size (.slice (some ⟨w.heap.size,0,none⟩) es.length es.length) (fs++[(M,es[k].2)])):=by
    have hz:=GC.size
    have hw:=HW.out
    have q1:=(OE.out.chg (Ce n) (Chg.of_below (F:=fun _=>False) b1) (fun _ _ _ _ e=>e)).chg (Ce n) GC (fun g g1 _ _ e=>by omega)
    exact q1.snoc (x:=wr.heap.size) (y:=w1.heap.size) (by omega) (Nat.le_refl _) SB hz (Ce n _ _ _ _ _ _ (EJ.own ho) GC (fun g g1 _ e=>by omega)) (fun g _ _ h=>h) (fun g g1 _ e=>by
     obtain⟨_,_,e,_⟩:=e
     simp only[Value.slice.injEq,Option.some.injEq,Addr.mk.injEq] at e
     omega)
   have ONE:Hid (cc.toArray.all (·.oneCell')=true):=by rw[hcc];exact ho.at.ones
   have HM:Hid ((Tryz.prog.info? 87).map (·.size)=some cc.toArray.size):=by show _=some cc.length;rw[hcl];exact(show(Tryz.prog.info? 87).map (·.size)=some 15 by kernel_rfl)
   clear hcc hcl PU P1 GC AK ES b1 hlk ho OW LK BW HW OE SB;go_wp2_with (refine wpList_store_mid rfl 87 _ _ rfl w.heap.size (k*15) cc.toArray rfl rfl TH.out HM.out ONE.out ?_)
   generalize w1.setCells w.heap.size (k*15) cc=W2 at *
   go_roundw
   case rel=>exact⟨k+1,fs++[(M,es[k].2)],by omega,by go_num,LK2.out,OW2.out,OE2.out,BW2.out,HW2.out⟩
   case measure=>simp[intOf];omega
  ·have hi2:¬(k:Int)<(es.length:Int):=by omega
   have hke:k=es.length:=by omega
   have L2:Hid (Bs Dx es fs):=by have:=LK.out;rw[hke,List.take_length] at this;exact this
   have O2:Hid (wr.ownsRow w.heap.size 87 15 (.slice (some ⟨w.heap.size,0,none⟩) es.length es.length) fs.length (fs.map AU).flatten):=by
    have:=OW.out
    rw[hke,Nat.sub_self,List.replicate_zero,List.append_nil] at this
    show World.ownsRow _ _ _ _ _ _ _
    rw[←L2.out.1]
    exact this
   clear LK OW;go_wp2;go_ret;have hb:=HW.out
   exact⟨_,rfl,fs,L2.out,⟨.inl O2.out,fun g hg=>by
    obtain⟨_,_,e,_⟩:=hg
    simp at e
    omega,BW.out.size,Nat.le_refl _,OE.out.up (by omega) (Nat.le_refl _)⟩,BW.out⟩
end
section
open Go.RowKit

def CU:Ex:=(0,0,0,0,0)
def Iv (k:Int):Ex:=(k,k+1,k+2,k+3,k+4)
def Cj (k:Int) (n:Nat):List Ex:=(List.range n).map fun i=>Iv (k+5*(i:Nat))
theorem Hg (v:Value) (es:List Ex) (k:Int) (w:World) (ho:Ac w 0 117 5 v es.length (es.map AM).flatten) (hk0:0<=k) (hk1:k+5*(es.length:Nat)<=67108864) :
  Calls Tryz.prog 42 #[v, .int .i64 k] w fun e w' =>e= .returned (.int .i64 (k+5*(es.length:Nat)))/\Ac w' 0 117 5 v es.length ((Cj k es.length).map AM).flatten/\Chg (fun b=>wrB v b) w w' :=by
 by_cases hm:es.length=0
 ·have he:es=[]:=List.length_eq_zero_iff.1 hm
  subst he;obtain⟨a,cap,rfl⟩:=ho.slice
  have FIN:Hid (Ac w 0 117 5 (.slice a ([]:List Ex).length cap) 0 ((Cj k 0).map AM).flatten):=ho
  clear ho;show Calls Tryz.prog 42 #[.slice a 0 cap, .int .i64 k] w _
  go_enter Tryz.func42,Tryz.ntmps42
  go_wp2;go_loopw [1,5] (fun kk i wr=>i= .int .i64 0/\kk= .int .i64 k/\wr=w) (fun _ _ _=>0)
  case atStart=>exact⟨rfl,rfl,rfl⟩
  case round=>
   obtain⟨rfl,rfl,rfl⟩:=hrel
   go_wp2;go_ret;exact⟨An (by simp),FIN.out,Chg.refl _ _⟩
 ·obtain⟨g,cap,hvv,hgc,how⟩:∃g cap,v= .slice (some ⟨g,0,none⟩) es.length cap/\0<cap/\w.ownsRow 0 117 5 v es.length (es.map AM).flatten:=by
   rcases ho with ho|⟨h0,_⟩
   ·obtain⟨_,⟨e,e2⟩|⟨g,cap',cur,e,_,_,hle,_⟩⟩:=id ho
    ·exact absurd e2 hm
    ·exact⟨g,cap',e,by omega,ho⟩
   ·exact absurd h0 hm
  subst hvv;have hgw:wrB (.slice (some ⟨g,0,none⟩) es.length cap) g:=⟨_,_,rfl,hgc⟩
  have FM:Hid (Fam (fun _ _ _=>False) (fun _ _ _=>True) (fun _ _ _=>True) g es.length):=⟨fun _ _ _ _ _ _ _ h=>h.elim,fun _ _ _ _ h=>h.elim,fun _ _ _ _ _ _ _ _ _=>trivial,fun _ _ _ _ _ _ _ _ _=>trivial⟩
  have hf:(∀i:Nat,(AM (Iv (k+5*(i:Nat)))).length=5)/\∀i,(AM (es.getD i CU)).length=5:=⟨fun _=>rfl,fun _=>rfl⟩
  have H0:Hid (StM (fun _ _ _=>False) (fun _ _ _=>True) (fun _ _ _=>True) (fun i:Nat=>AM (Iv (k+5*(i:Nat)))) (fun i=>AM (es.getD i CU)) 117 5 g es.length cap w 0 0 (AM (es.getD 0 CU)) w):=
   ⟨by rw[E9 (cs:=fun i=>AM (es.getD i CU)),RX];exact how,rfl,fun _ _ _ _=>trivial,fun _ _ _ _=>trivial,Chg.refl _ _⟩
  have FIN:Hid (∀W,StM (fun _ _ _=>False) (fun _ _ _=>True) (fun _ _ _=>True) (fun i:Nat=>AM (Iv (k+5*(i:Nat)))) (fun i=>AM (es.getD i CU)) 117 5 g es.length cap w es.length 0 (AM (es.getD es.length CU)) W→
    Ac W 0 117 5 (.slice (some ⟨g,0,none⟩) es.length cap) es.length ((Cj k es.length).map AM).flatten/\Chg (fun b=>wrB (.slice (some ⟨g,0,none⟩) es.length cap) b) w W):=fun W st=>by
   have r:=st.own
   rw[Ew] at r
   refine⟨?_,st.chg.mono (fun b _ hb=> ?_)⟩
   ·unfold Cj;rw[List.map_map]
    exact .inl r
   ·rcases hb with rfl|⟨_,_,_,hb⟩
    ·exact hgw
    ·exact hb.elim
  clear ho how hgw;generalize hE:(fun i=>es.getD i CU)=E at *
  have hE' :∀i,es.getD i CU=E i:=fun i=>by rw[←hE]
  simp only[hE'] at *
  clear hE hE';generalize ((Cj k es.length).map AM).flatten=RES at *
  generalize hmm:es.length=m at *
  clear hmm hm;have HB:Hid (0<=k/\k+5*(m:Nat)<=67108864):=⟨hk0,hk1⟩
  go_enter Tryz.func42,Tryz.ntmps42
  go_wp2;go_loopw [1,5] (fun kk i wr=>∃j:Nat,j<=m/\i= .int .i64 j/\kk= .int .i64 (k+5*(j:Nat))/\Hid (StM (fun _ _ _=>False) (fun _ _ _=>True) (fun _ _ _=>True) (fun i:Nat=>AM (Iv (k+5*(i:Nat)))) (fun i=>AM (E i)) 117 5 g m cap w j 0 (AM (E j)) wr)) (fun _ i _=>m-(intOf i).toNat)
  case atStart=>exact⟨0,Nat.zero_le _,rfl,by simp,H0⟩
  case round=>
   obtain⟨j,hj,rfl,rfl,HF⟩:=hrel
   by_cases hlt:j<m
   ·have S0:=HF
    clear H0 FIN HF;obtain⟨a0,ha0⟩:∃x:Int,x=k+5*(j:Nat):=⟨_,rfl⟩
    obtain⟨e,hej⟩:∃e,E j=e:=⟨_,rfl⟩
    rw[hej] at S0
    obtain⟨x1,h1⟩:∃x:Int,x=a0+1:=⟨_,rfl⟩
    obtain⟨x2,h2⟩:∃x:Int,x=a0+2:=⟨_,rfl⟩
    obtain⟨x3,h3⟩:∃x:Int,x=a0+3:=⟨_,rfl⟩
    obtain⟨x4,h4⟩:∃x:Int,x=a0+4:=⟨_,rfl⟩
    obtain⟨x5,h5⟩:∃x:Int,x=a0+5:=⟨_,rfl⟩
    have FE:Hid (((((((AM e).set 0 (.int .i64 a0)).set 1 (.int .i64 x1)).set 2 (.int .i64 x2)).set 3 (.int .i64 x3)).set 4 (.int .i64 x4))=AM (Iv (k+5*(j:Nat)))):=by
     show _=_
     subst h5 h4 h3 h2 h1 ha0;rfl
    have EN:Hid (k+5*((j+1:Nat):Int)=x5):=by show _=_;omega
    have CH:Hid (x1=a0+1/\x2=x1+1/\x3=x2+1/\x4=x3+1/\x5=x4+1/\0<=a0/\x5<=67108864):=⟨by omega,by omega,by omega,by omega,by omega,by omega,by omega⟩
    rw[←ha0]
    clear ha0 hej h1 h2 h3 h4 h5;have b0:0<=a0:=by have:=CH.out;omega
    have b1:a0<=67108864:=by have:=CH.out;omega
    have c0:wr.cell? ⟨g,j*5,none⟩=some (.int .i64 e.1):=S0.out.cell hf hlt 0 (by omega)
    have f0:wr.frozen? ⟨g,j*5,none⟩=false:=S0.out.frozen 0
    replace S0:=Ag (S0.out.put FM.out hf hlt 0 (by omega) (.int .i64 a0))
    go_upto_region 6 with fail
    rw[show a0+1=x1 by have:=CH.out;omega]
    generalize hW0:wr.setCell ⟨g,j*5,none⟩ (.int .i64 a0)=W0 at *
    clear c0 f0 b0 b1 hW0;have b0:0<=x1:=by have:=CH.out;omega
    have b1:x1<=67108864:=by have:=CH.out;omega
    have c0:W0.cell? ⟨g,j*5+1,none⟩=some (.int .i64 e.2.1):=S0.out.cell hf hlt 1 (by omega)
    have f0:W0.frozen? ⟨g,j*5+1,none⟩=false:=S0.out.frozen 1
    replace S0:=Ag (S0.out.put FM.out hf hlt 1 (by omega) (.int .i64 x1))
    go_upto_region 8 with fail
    rw[show x1+1=x2 by have:=CH.out;omega]
    generalize hW1:W0.setCell ⟨g,j*5+1,none⟩ (.int .i64 x1)=W1 at *
    clear c0 f0 b0 b1 hW1;have b0:0<=x2:=by have:=CH.out;omega
    have b1:x2<=67108864:=by have:=CH.out;omega
    have c0:W1.cell? ⟨g,j*5+2,none⟩=some (.int .i64 e.2.2.1):=S0.out.cell hf hlt 2 (by omega)
    have f0:W1.frozen? ⟨g,j*5+2,none⟩=false:=S0.out.frozen 2
    replace S0:=Ag (S0.out.put FM.out hf hlt 2 (by omega) (.int .i64 x2))
    go_upto_region 10 with fail
    rw[show x2+1=x3 by have:=CH.out;omega]
    generalize hW2:W1.setCell ⟨g,j*5+2,none⟩ (.int .i64 x2)=W2 at *
    clear c0 f0 b0 b1 hW2;have b0:0<=x3:=by have:=CH.out;omega
    have b1:x3<=67108864:=by have:=CH.out;omega
    have c0:W2.cell? ⟨g,j*5+3,none⟩=some (.int .i64 e.2.2.2.1):=S0.out.cell hf hlt 3 (by omega)
    have f0:W2.frozen? ⟨g,j*5+3,none⟩=false:=S0.out.frozen 3
    replace S0:=Ag (S0.out.put FM.out hf hlt 3 (by omega) (.int .i64 x3))
    go_upto_region 12 with fail
    rw[show x3+1=x4 by have:=CH.out;omega]
    generalize hW3:W2.setCell ⟨g,j*5+3,none⟩ (.int .i64 x3)=W3 at *
    clear c0 f0 b0 b1 hW3;have b0:0<=x4:=by have:=CH.out;omega
    have b1:x4<=67108864:=by have:=CH.out;omega
    have c0:W3.cell? ⟨g,j*5+4,none⟩=some (.int .i64 e.2.2.2.2):=S0.out.cell hf hlt 4 (by omega)
    have f0:W3.frozen? ⟨g,j*5+4,none⟩=false:=S0.out.frozen 4
    replace S0:=Ag (S0.out.put FM.out hf hlt 4 (by omega) (.int .i64 x4))
    have FN:=Ag (S0.out.next FE.out rfl (fun _ _ _ _ _=>trivial))
    go_wp2;go_roundw
    case rel=>exact⟨j+1,by omega,by go_num,by rw[EN.out];exact congrArg _ (by have:=CH.out;omega),FN⟩
    case measure=>simp[intOf];omega
   ·have hjl:j=m:=by omega
    subst hjl;go_wp2;go_ret;exact⟨rfl,FIN.out _ HF.out⟩

theorem Km (v:Value) (n:Nat) (k:Int) (w:World) (h:Cr AM F6 w v (Cj k n)) (hk0:0<=k) (hk1:k+5*(n:Nat)<=67108864) :
  Calls Tryz.prog 52 #[v, .int .i64 k] w fun e w' =>e= .returned (.int .i64 (k+5*(n:Nat)))/\w' =w:=by
 have hl:(Cj k n).length=n:=by simp[Cj]
 obtain⟨a,b,off,cap,rfl,hle,hmax,ha,hcell⟩:=h.parts (K:=5) (fun _=>rfl)
 rw[hl] at hle ha
 have HC:Hid (∀i,i<n->w.rangeAt b (off+i*5) (AM (Iv (k+5*(i:Nat))))):=fun i hi=>by
  have:=hcell w (Below.refl _ _) i (by rw[hl];exact hi)
  simpa[Cj] using this
 rw[hl]
 clear h hl hcell;unfold maxLen at hmax;have h63:(n:Int)<=9223372036854775807:=by omega
 have HAA:Hid (0<n->a=some ⟨b,off,none⟩):=ha
 clear ha hle hmax;go_enter Tryz.func52,Tryz.ntmps52
 go_wp2;go_loopw [1,5] (fun kk i wr=>∃j:Nat,j<=n/\i= .int .i64 j/\kk= .int .i64 (k+5*(j:Nat))/\wr=w) (fun _ i _=>n-(intOf i).toNat)
 case atStart=>exact⟨0,Nat.zero_le _,rfl,by simp,rfl⟩
 case round=>
  obtain⟨j,hj,rfl,rfl,rfl⟩:=hrel
  by_cases hlt:j<n
  ·have hal:=HAA.out (by omega)
   subst hal;have RC:=HC.out j hlt
   obtain⟨a0,ha0⟩:∃x:Int,x=k+5*(j:Nat):=⟨_,rfl⟩
   rw[←ha0] at RC
   obtain⟨x1,h1⟩:∃x:Int,x=a0+1:=⟨_,rfl⟩
   obtain⟨x2,h2⟩:∃x:Int,x=a0+2:=⟨_,rfl⟩
   obtain⟨x3,h3⟩:∃x:Int,x=a0+3:=⟨_,rfl⟩
   obtain⟨x4,h4⟩:∃x:Int,x=a0+4:=⟨_,rfl⟩
   obtain⟨x5,h5⟩:∃x:Int,x=a0+5:=⟨_,rfl⟩
   have CE:Hid (wr.cell? ⟨b,off+j*5,none⟩=some (.int .i64 a0)/\wr.cell? ⟨b,off+j*5+1,none⟩=some (.int .i64 x1)/\wr.cell? ⟨b,off+j*5+2,none⟩=some (.int .i64 x2)/\wr.cell? ⟨b,off+j*5+3,none⟩=some (.int .i64 x3)/\wr.cell? ⟨b,off+j*5+4,none⟩=some (.int .i64 x4)):=by
    subst h5 h4 h3 h2 h1;exact⟨RC 0 _ rfl,RC 1 _ rfl,RC 2 _ rfl,RC 3 _ rfl,RC 4 _ rfl⟩
   have EN:Hid (k+5*((j+1:Nat):Int)=x5):=by show _=_;omega
   have CH:Hid (x1=a0+1/\x2=x1+1/\x3=x2+1/\x4=x3+1/\x5=x4+1/\0<=a0/\x5<=67108864):=⟨by omega,by omega,by omega,by omega,by omega,by omega,by omega⟩
   rw[←ha0]
   clear ha0 HC RC h1 h2 h3 h4 h5;have d0:=CE.out.1
   have b0:0<=a0:=by have:=CH.out;omega
   have b1:a0<=67108864:=by have:=CH.out;omega
   go_upto_region 7 with fail
   rw[show a0+1=x1 by have:=CH.out;omega]
   clear d0 b0 b1;have d0:=CE.out.2.1
   have b0:0<=x1:=by have:=CH.out;omega
   have b1:x1<=67108864:=by have:=CH.out;omega
   go_upto_region 10 with fail
   rw[show x1+1=x2 by have:=CH.out;omega]
   clear d0 b0 b1;have d0:=CE.out.2.2.1
   have b0:0<=x2:=by have:=CH.out;omega
   have b1:x2<=67108864:=by have:=CH.out;omega
   go_upto_region 13 with fail
   rw[show x2+1=x3 by have:=CH.out;omega]
   clear d0 b0 b1;have d0:=CE.out.2.2.2.1
   have b0:0<=x3:=by have:=CH.out;omega
   have b1:x3<=67108864:=by have:=CH.out;omega
   go_upto_region 16 with fail
   rw[show x3+1=x4 by have:=CH.out;omega]
   clear d0 b0 b1;have d0:=CE.out.2.2.2.2
   have b0:0<=x4:=by have:=CH.out;omega
   have b1:x4<=67108864:=by have:=CH.out;omega
   go_wp2;go_roundw
   case rel=>exact⟨j+1,by omega,by go_num,by rw[EN.out];exact congrArg _ (by have:=CH.out;omega),by trivial⟩
   case measure=>simp[intOf];omega
  ·have hjl:j=n:=by omega
   subst hjl;go_wp2;go_ret;exact⟨rfl,rfl⟩

def Cc:Er:=(0,0)
def IK (k:Int):Er:=(k,k+1)
def Di (k:Int) (n:Nat):List Er:=(List.range n).map fun i=>IK (k+2*(i:Nat))
theorem Gh (v:Value) (es:List Er) (k:Int) (w:World) (ho:Ac w 0 121 2 v es.length (es.map AN).flatten) (hk0:0<=k) (hk1:k+2*(es.length:Nat)<=67108864) :
  Calls Tryz.prog 44 #[v, .int .i64 k] w fun e w' =>e= .returned (.int .i64 (k+2*(es.length:Nat)))/\Ac w' 0 121 2 v es.length ((Di k es.length).map AN).flatten/\Chg (fun b=>wrB v b) w w' :=by
 by_cases hm:es.length=0
 ·have he:es=[]:=List.length_eq_zero_iff.1 hm
  subst he;obtain⟨a,cap,rfl⟩:=ho.slice
  have FIN:Hid (Ac w 0 121 2 (.slice a ([]:List Er).length cap) 0 ((Di k 0).map AN).flatten):=ho
  clear ho;show Calls Tryz.prog 44 #[.slice a 0 cap, .int .i64 k] w _
  go_enter Tryz.func44,Tryz.ntmps44
  go_wp2;go_loopw [1,5] (fun kk i wr=>i= .int .i64 0/\kk= .int .i64 k/\wr=w) (fun _ _ _=>0)
  case atStart=>exact⟨rfl,rfl,rfl⟩
  case round=>
   obtain⟨rfl,rfl,rfl⟩:=hrel
   go_wp2;go_ret;exact⟨An (by simp),FIN.out,Chg.refl _ _⟩
 ·obtain⟨g,cap,hvv,hgc,how⟩:∃g cap,v= .slice (some ⟨g,0,none⟩) es.length cap/\0<cap/\w.ownsRow 0 121 2 v es.length (es.map AN).flatten:=by
   rcases ho with ho|⟨h0,_⟩
   ·obtain⟨_,⟨e,e2⟩|⟨g,cap',cur,e,_,_,hle,_⟩⟩:=id ho
    ·exact absurd e2 hm
    ·exact⟨g,cap',e,by omega,ho⟩
   ·exact absurd h0 hm
  subst hvv;have hgw:wrB (.slice (some ⟨g,0,none⟩) es.length cap) g:=⟨_,_,rfl,hgc⟩
  have FM:Hid (Fam (fun _ _ _=>False) (fun _ _ _=>True) (fun _ _ _=>True) g es.length):=⟨fun _ _ _ _ _ _ _ h=>h.elim,fun _ _ _ _ h=>h.elim,fun _ _ _ _ _ _ _ _ _=>trivial,fun _ _ _ _ _ _ _ _ _=>trivial⟩
  have hf:(∀i:Nat,(AN (IK (k+2*(i:Nat)))).length=2)/\∀i,(AN (es.getD i Cc)).length=2:=⟨fun _=>rfl,fun _=>rfl⟩
  have H0:Hid (StM (fun _ _ _=>False) (fun _ _ _=>True) (fun _ _ _=>True) (fun i:Nat=>AN (IK (k+2*(i:Nat)))) (fun i=>AN (es.getD i Cc)) 121 2 g es.length cap w 0 0 (AN (es.getD 0 Cc)) w):=
   ⟨by rw[E9 (cs:=fun i=>AN (es.getD i Cc)),RX];exact how,rfl,fun _ _ _ _=>trivial,fun _ _ _ _=>trivial,Chg.refl _ _⟩
  have FIN:Hid (∀W,StM (fun _ _ _=>False) (fun _ _ _=>True) (fun _ _ _=>True) (fun i:Nat=>AN (IK (k+2*(i:Nat)))) (fun i=>AN (es.getD i Cc)) 121 2 g es.length cap w es.length 0 (AN (es.getD es.length Cc)) W→
    Ac W 0 121 2 (.slice (some ⟨g,0,none⟩) es.length cap) es.length ((Di k es.length).map AN).flatten/\Chg (fun b=>wrB (.slice (some ⟨g,0,none⟩) es.length cap) b) w W):=fun W st=>by
   have r:=st.own
   rw[Ew] at r
   refine⟨?_,st.chg.mono (fun b _ hb=> ?_)⟩
   ·unfold Di;rw[List.map_map]
    exact .inl r
   ·rcases hb with rfl|⟨_,_,_,hb⟩
    ·exact hgw
    ·exact hb.elim
  clear ho how hgw;generalize hE:(fun i=>es.getD i Cc)=E at *
  have hE' :∀i,es.getD i Cc=E i:=fun i=>by rw[←hE]
  simp only[hE'] at *
  clear hE hE';generalize ((Di k es.length).map AN).flatten=RES at *
  generalize hmm:es.length=m at *
  clear hmm hm;have HB:Hid (0<=k/\k+2*(m:Nat)<=67108864):=⟨hk0,hk1⟩
  go_enter Tryz.func44,Tryz.ntmps44
  go_wp2;go_loopw [1,5] (fun kk i wr=>∃j:Nat,j<=m/\i= .int .i64 j/\kk= .int .i64 (k+2*(j:Nat))/\Hid (StM (fun _ _ _=>False) (fun _ _ _=>True) (fun _ _ _=>True) (fun i:Nat=>AN (IK (k+2*(i:Nat)))) (fun i=>AN (E i)) 121 2 g m cap w j 0 (AN (E j)) wr)) (fun _ i _=>m-(intOf i).toNat)
  case atStart=>exact⟨0,Nat.zero_le _,rfl,by simp,H0⟩
  case round=>
   obtain⟨j,hj,rfl,rfl,HF⟩:=hrel
   by_cases hlt:j<m
   ·have S0:=HF
    clear H0 FIN HF;obtain⟨a0,ha0⟩:∃x:Int,x=k+2*(j:Nat):=⟨_,rfl⟩
    obtain⟨e,hej⟩:∃e,E j=e:=⟨_,rfl⟩
    rw[hej] at S0
    obtain⟨x1,h1⟩:∃x:Int,x=a0+1:=⟨_,rfl⟩
    obtain⟨x2,h2⟩:∃x:Int,x=a0+2:=⟨_,rfl⟩
    have FE:Hid ((((AN e).set 0 (.int .i64 a0)).set 1 (.int .i64 x1))=AN (IK (k+2*(j:Nat)))):=by
     show _=_
     subst h2 h1 ha0;rfl
    have EN:Hid (k+2*((j+1:Nat):Int)=x2):=by show _=_;omega
    have CH:Hid (x1=a0+1/\x2=x1+1/\0<=a0/\x2<=67108864):=⟨by omega,by omega,by omega,by omega⟩
    rw[←ha0]
    clear ha0 hej h1 h2;have b0:0<=a0:=by have:=CH.out;omega
    have b1:a0<=67108864:=by have:=CH.out;omega
    have c0:wr.cell? ⟨g,j*2,none⟩=some (.int .i64 e.1):=S0.out.cell hf hlt 0 (by omega)
    have f0:wr.frozen? ⟨g,j*2,none⟩=false:=S0.out.frozen 0
    replace S0:=Ag (S0.out.put FM.out hf hlt 0 (by omega) (.int .i64 a0))
    go_upto_region 6 with fail
    rw[show a0+1=x1 by have:=CH.out;omega]
    generalize hW0:wr.setCell ⟨g,j*2,none⟩ (.int .i64 a0)=W0 at *
    clear c0 f0 b0 b1 hW0;have b0:0<=x1:=by have:=CH.out;omega
    have b1:x1<=67108864:=by have:=CH.out;omega
    have c0:W0.cell? ⟨g,j*2+1,none⟩=some (.int .i64 e.2):=S0.out.cell hf hlt 1 (by omega)
    have f0:W0.frozen? ⟨g,j*2+1,none⟩=false:=S0.out.frozen 1
    replace S0:=Ag (S0.out.put FM.out hf hlt 1 (by omega) (.int .i64 x1))
    have FN:=Ag (S0.out.next FE.out rfl (fun _ _ _ _ _=>trivial))
    go_wp2;go_roundw
    case rel=>exact⟨j+1,by omega,by go_num,by rw[EN.out];exact congrArg _ (by have:=CH.out;omega),FN⟩
    case measure=>simp[intOf];omega
   ·have hjl:j=m:=by omega
    subst hjl;go_wp2;go_ret;exact⟨rfl,FIN.out _ HF.out⟩

theorem I5 (v:Value) (n:Nat) (k:Int) (w:World) (h:Cr AN F6 w v (Di k n)) (hk0:0<=k) (hk1:k+2*(n:Nat)<=67108864) :
  Calls Tryz.prog 54 #[v, .int .i64 k] w fun e w' =>e= .returned (.int .i64 (k+2*(n:Nat)))/\w' =w:=by
 have hl:(Di k n).length=n:=by simp[Di]
 obtain⟨a,b,off,cap,rfl,hle,hmax,ha,hcell⟩:=h.parts (K:=2) (fun _=>rfl)
 rw[hl] at hle ha
 have HC:Hid (∀i,i<n->w.rangeAt b (off+i*2) (AN (IK (k+2*(i:Nat))))):=fun i hi=>by
  have:=hcell w (Below.refl _ _) i (by rw[hl];exact hi)
  simpa[Di] using this
 rw[hl]
 clear h hl hcell;unfold maxLen at hmax;have h63:(n:Int)<=9223372036854775807:=by omega
 have HAA:Hid (0<n->a=some ⟨b,off,none⟩):=ha
 clear ha hle hmax;go_enter Tryz.func54,Tryz.ntmps54
 go_wp2;go_loopw [1,5] (fun kk i wr=>∃j:Nat,j<=n/\i= .int .i64 j/\kk= .int .i64 (k+2*(j:Nat))/\wr=w) (fun _ i _=>n-(intOf i).toNat)
 case atStart=>exact⟨0,Nat.zero_le _,rfl,by simp,rfl⟩
 case round=>
  obtain⟨j,hj,rfl,rfl,rfl⟩:=hrel
  by_cases hlt:j<n
  ·have hal:=HAA.out (by omega)
   subst hal;have RC:=HC.out j hlt
   obtain⟨a0,ha0⟩:∃x:Int,x=k+2*(j:Nat):=⟨_,rfl⟩
   rw[←ha0] at RC
   obtain⟨x1,h1⟩:∃x:Int,x=a0+1:=⟨_,rfl⟩
   obtain⟨x2,h2⟩:∃x:Int,x=a0+2:=⟨_,rfl⟩
   have CE:Hid (wr.cell? ⟨b,off+j*2,none⟩=some (.int .i64 a0)/\wr.cell? ⟨b,off+j*2+1,none⟩=some (.int .i64 x1)):=by
    subst h2 h1;exact⟨RC 0 _ rfl,RC 1 _ rfl⟩
   have EN:Hid (k+2*((j+1:Nat):Int)=x2):=by show _=_;omega
   have CH:Hid (x1=a0+1/\x2=x1+1/\0<=a0/\x2<=67108864):=⟨by omega,by omega,by omega,by omega⟩
   rw[←ha0]
   clear ha0 HC RC h1 h2;have d0:=CE.out.1
   have b0:0<=a0:=by have:=CH.out;omega
   have b1:a0<=67108864:=by have:=CH.out;omega
   go_upto_region 7 with fail
   rw[show a0+1=x1 by have:=CH.out;omega]
   clear d0 b0 b1;have d0:=CE.out.2
   have b0:0<=x1:=by have:=CH.out;omega
   have b1:x1<=67108864:=by have:=CH.out;omega
   go_wp2;go_roundw
   case rel=>exact⟨j+1,by omega,by go_num,by rw[EN.out];exact congrArg _ (by have:=CH.out;omega),by trivial⟩
   case measure=>simp[intOf];omega
  ·have hjl:j=n:=by omega
   subst hjl;go_wp2;go_ret;exact⟨rfl,rfl⟩
end
end Go.Proofs.YtkcaelfkcepdkaaGreat
