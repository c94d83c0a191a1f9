/-
  Lists of structs: compared.
  A world in memory: the laws' own functions that measure and compare it.
-/
import Derived.Test.YtkcaelfkcepdkaaGreatOfNote6
import Derived.Test.YtkcaelfkcepdkaaGreatOfNote7
import Derived.Test.YtkcaelfkcepdkaaGreatOfNote9
import Derived.Test.YtkcaelfkcepdkaaGreatOfNote4
import Derived.Test.YtkcaelfkcepdkaaGreatOfNote2
namespace Go.Proofs.YtkcaelfkcepdkaaGreat
set_option maxRecDepth 100000
set_option maxHeartbeats 8000000
section
open Go.RowKit

theorem Pv (n:Nat) (v1 v2:Value) (es fs:List BH) (w:World) (h1:Cr Ax (Du n) w v1 es) (h2:Cr Ax (Du n) w v2 fs) (hlk:Bs Dv es fs) :
  Calls Tryz.prog 36 #[v1,v2] w fun e w' =>e= .returned (.bool true)/\Below w.heap.size w w' :=by
 obtain⟨a,b,off,cap,rfl,hcap,hmax,ha,rg⟩:=h1.parts (K:=23) (fun _=>rfl)
 obtain⟨a2,b2,off2,cap2,rfl,hcap2,hmax2,ha2,rg2⟩:=h2.parts (K:=23) (fun _=>rfl)
 unfold maxLen at hmax hmax2;have hl:=hlk.1
 have EQ:=hq (fun u i (hi:i<es.length) (hi' :i<fs.length) (hu:Below w.heap.size w u)=>by
  have h3:=h2.2 _ (List.getElem_mem hi')
  have hk:=hlk.2 i hi hi'
  unfold Dv at hk;unfold Du at h3;rw[←hk.2] at h3
  exact Is n es[i].1 fs[i].1 es[i].2 u hk.1 ((h1.2 _ (List.getElem_mem hi)).below hu) (h3.below hu))
 have RG:=hq rg
 have RG2:=hq rg2
 have HA:=hq ha
 have HA2:=hq ha2
 have hne:((es.length:Int) != (fs.length:Int))=false:=by rw[bne_eq_false_iff_eq];omega
 have HL:=hq hl
 clear h1 h2 hlk rg rg2 ha ha2 hl;go_enter Tryz.func36,Tryz.ntmps36
 go_wp2;go_loopw [5] (fun i wr=>∃k:Nat,k<=es.length/\i= .int .i64 k/\Hid (Below w.heap.size w wr)) (fun i _=>es.length-(intOf i).toNat)
 case atStart=>exact⟨0,Nat.zero_le _,rfl,Below.refl _ _⟩
 case round=>
  obtain⟨k,hk,rfl,BW⟩:=hrel
  by_cases hlt:k<es.length
  ·have hlt2:k<fs.length:=by have:=HL.out;omega
   have hal:=HA.out (by omega)
   subst hal;have hal2:=HA2.out (by omega)
   subst hal2;have hi:(k:Int)<(es.length:Int):=by omega
   have hi2:(k:Int)<(fs.length:Int):=by omega
   go_upto_region 6 with fail
   have RF:=hq ((Below.refl wr.heap.size wr).drew)
   have KE:=hq (fun u (hu:Below wr.heap.size wr u)=>And.intro (RG.out u (Below.and BW.out hu) k hlt) (RG2.out u (Below.and BW.out hu) k hlt2))
   refine wp_region_held_drew (S:=fun u=>u.rangeAt b (off+k*23) (Ax es[k])/\u.rangeAt b2 (off2+k*23) (Ax fs[k])) (by kernel_rfl) (KE.out _ RF.out) (fun hH=> ?_)
   refine tk 0 (oi:=⟨_,_,_,_,_,_⟩) (v:= ?_) rfl (by kernel_rfl) (fun _ _ _ h=>h) (Or.inl ⟨by rfl, ?_⟩) (KE.out _ RF.out) ?_
   rotate_left
   ·(intro u hu;go_simp)
    try with_reducible rfl
   try simp only[Act.put,sA,sB,sC]
   refine tk 1 (oi:=⟨_,_,_,_,_,_⟩) (v:= ?_) rfl (by kernel_rfl) (fun _ _ _ h=>h) (Or.inl ⟨by rfl, ?_⟩) (KE.out _ RF.out) ?_
   rotate_left
   ·(intro u hu;go_simp)
    try with_reducible rfl
   try simp only[Act.put,sA,sB,sC]
   refine tk 2 (oi:=⟨_,_,_,_,_,_⟩) (v:= ?_) rfl (by kernel_rfl) (fun _ _ _ h=>h) (Or.inl ⟨by rfl, ?_⟩) (KE.out _ RF.out) ?_
   rotate_left
   ·(intro u hu;go_simp)
    try with_reducible rfl
   try simp only[Act.put,sA,sB,sC]
   refine tk 3 (oi:=⟨_,_,_,_,_,_⟩) (v:= .agg (Ax es[k]).toArray) rfl (by kernel_rfl) (fun _ _ _ h=>h) (yieldsIf_load_mid rfl 73 _ rfl b (off+k*23) rfl (Ax es[k]) _ (fun u hu=>hu.1) Tryz.underlying73 rfl (show(Tryz.prog.info? 73).map (·.size)=some 23 by kernel_rfl)) (KE.out _ RF.out) ?_
   try simp only[Act.put,sA,sB,sC]
   refine tk 4 (oi:=⟨_,_,_,_,_,_⟩) (v:= ?_) rfl (by kernel_rfl) (fun _ _ _ h=>h) (Or.inl ⟨by rfl, ?_⟩) (KE.out _ RF.out) ?_
   rotate_left
   ·(intro u hu;go_simp)
    try with_reducible rfl
   try simp only[Act.put,sA,sB,sC]
   refine tk 5 (oi:=⟨_,_,_,_,_,_⟩) (v:= ?_) rfl (by kernel_rfl) (fun _ _ _ h=>h) (Or.inl ⟨by rfl, ?_⟩) (KE.out _ RF.out) ?_
   rotate_left
   ·(intro u hu;go_simp)
    try with_reducible rfl
   try simp only[Act.put,sA,sB,sC]
   refine tk 6 (oi:=⟨_,_,_,_,_,_⟩) (v:= ?_) rfl (by kernel_rfl) (fun _ _ _ h=>h) (Or.inl ⟨by rfl, ?_⟩) (KE.out _ RF.out) ?_
   rotate_left
   ·(intro u hu;go_simp)
    try with_reducible rfl
   try simp only[Act.put,sA,sB,sC]
   refine tk 7 (oi:=⟨_,_,_,_,_,_⟩) (v:= .agg (Ax fs[k]).toArray) rfl (by kernel_rfl) (fun _ _ _ h=>h) (yieldsIf_load_mid rfl 73 _ rfl b2 (off2+k*23) rfl (Ax fs[k]) _ (fun u hu=>hu.2) Tryz.underlying73 rfl (show(Tryz.prog.info? 73).map (·.size)=some 23 by kernel_rfl)) (KE.out _ RF.out) ?_
   try simp only[Act.put,sA,sB,sC]
   refine Ha [(8,none),(9,none)] rfl (by kernel_rfl) (fun u hu=>KE.out u (Below.and RF.out hu)) ?_ ?_
   ·intro f g hf;simp at hf
   refine CW.op (o:=⟨_,_,_,_,_,_⟩) rfl (fun u1 l1 K hK=> ?_)
   refine Bm 20 [.tmp 20, .tmp 24] #[73,73] rfl (fun args w=>by go_simp) [.agg (Ax es[k]).toArray, .agg (Ax fs[k]).toArray] rfl (EQ.out u1 k hlt hlt2 (Below.and (Below.and BW.out RF.out) l1)) ?_
   rintro e x1 ⟨rfl,b1⟩
   refine⟨_,rfl,hK.out _ _ b1 ?_⟩
   clear hK K;have BX:=hq (Below.and (Below.and BW.out RF.out) (Below.and l1 b1))
   clear l1 b1;refine CW.op (o:=⟨_,_,_,_,_,_⟩) rfl (fun u2 l2 K hK=> ?_)
   have BY:=hq (Below.and BX.out l2)
   clear l2;refine Fx _ rfl true rfl (hK.out _ _ (Ltr.refl _) ?_)
   clear hK K;refine CW.done (fun u3 l3=> ?_)
   have BZ:=hq (Below.and BY.out l3)
   clear l3;go_wp2;go_roundw
   case rel=>exact⟨k+1,by omega,by go_num,BZ.out⟩
   case measure=>simp[intOf];omega
  ·have hi:¬(k:Int)<(es.length:Int):=by omega
   go_wp2;go_ret;exact⟨rfl,BW.out⟩

theorem Qk (n:Nat) (v1 v2:Value) (es fs:List BU) (w:World) (h1:Cr AU (Dw n) w v1 es) (h2:Cr AU (Dw n) w v2 fs) (hlk:Bs Dx es fs) :
  Calls Tryz.prog 12 #[v1,v2] w fun e w' =>e= .returned (.bool true)/\Below w.heap.size w w' :=by
 obtain⟨a,b,off,cap,rfl,hcap,hmax,ha,rg⟩:=h1.parts (K:=15) (fun _=>rfl)
 obtain⟨a2,b2,off2,cap2,rfl,hcap2,hmax2,ha2,rg2⟩:=h2.parts (K:=15) (fun _=>rfl)
 unfold maxLen at hmax hmax2;have hl:=hlk.1
 have EQ:=hq (fun u i (hi:i<es.length) (hi' :i<fs.length) (hu:Below w.heap.size w u)=>by
  have h3:=h2.2 _ (List.getElem_mem hi')
  have hk:=hlk.2 i hi hi'
  unfold Dx at hk;unfold Dw at h3;rw[←hk.2] at h3
  exact P8 n es[i].1 fs[i].1 es[i].2 u hk.1 ((h1.2 _ (List.getElem_mem hi)).below hu) (h3.below hu))
 have RG:=hq rg
 have RG2:=hq rg2
 have HA:=hq ha
 have HA2:=hq ha2
 have hne:((es.length:Int) != (fs.length:Int))=false:=by rw[bne_eq_false_iff_eq];omega
 have HL:=hq hl
 clear h1 h2 hlk rg rg2 ha ha2 hl;go_enter Tryz.func12,Tryz.ntmps12
 go_wp2;go_loopw [5] (fun i wr=>∃k:Nat,k<=es.length/\i= .int .i64 k/\Hid (Below w.heap.size w wr)) (fun i _=>es.length-(intOf i).toNat)
 case atStart=>exact⟨0,Nat.zero_le _,rfl,Below.refl _ _⟩
 case round=>
  obtain⟨k,hk,rfl,BW⟩:=hrel
  by_cases hlt:k<es.length
  ·have hlt2:k<fs.length:=by have:=HL.out;omega
   have hal:=HA.out (by omega)
   subst hal;have hal2:=HA2.out (by omega)
   subst hal2;have hi:(k:Int)<(es.length:Int):=by omega
   have hi2:(k:Int)<(fs.length:Int):=by omega
   go_upto_region 6 with fail
   have RF:=hq ((Below.refl wr.heap.size wr).drew)
   have KE:=hq (fun u (hu:Below wr.heap.size wr u)=>And.intro (RG.out u (Below.and BW.out hu) k hlt) (RG2.out u (Below.and BW.out hu) k hlt2))
   refine wp_region_held_drew (S:=fun u=>u.rangeAt b (off+k*15) (AU es[k])/\u.rangeAt b2 (off2+k*15) (AU fs[k])) (by kernel_rfl) (KE.out _ RF.out) (fun hH=> ?_)
   refine tk 0 (oi:=⟨_,_,_,_,_,_⟩) (v:= ?_) rfl (by kernel_rfl) (fun _ _ _ h=>h) (Or.inl ⟨by rfl, ?_⟩) (KE.out _ RF.out) ?_
   rotate_left
   ·(intro u hu;go_simp)
    try with_reducible rfl
   try simp only[Act.put,sA,sB,sC]
   refine tk 1 (oi:=⟨_,_,_,_,_,_⟩) (v:= ?_) rfl (by kernel_rfl) (fun _ _ _ h=>h) (Or.inl ⟨by rfl, ?_⟩) (KE.out _ RF.out) ?_
   rotate_left
   ·(intro u hu;go_simp)
    try with_reducible rfl
   try simp only[Act.put,sA,sB,sC]
   refine tk 2 (oi:=⟨_,_,_,_,_,_⟩) (v:= ?_) rfl (by kernel_rfl) (fun _ _ _ h=>h) (Or.inl ⟨by rfl, ?_⟩) (KE.out _ RF.out) ?_
   rotate_left
   ·(intro u hu;go_simp)
    try with_reducible rfl
   try simp only[Act.put,sA,sB,sC]
   refine tk 3 (oi:=⟨_,_,_,_,_,_⟩) (v:= .agg (AU es[k]).toArray) rfl (by kernel_rfl) (fun _ _ _ h=>h) (yieldsIf_load_mid rfl 87 _ rfl b (off+k*15) rfl (AU es[k]) _ (fun u hu=>hu.1) Tryz.underlying87 rfl (show(Tryz.prog.info? 87).map (·.size)=some 15 by kernel_rfl)) (KE.out _ RF.out) ?_
   try simp only[Act.put,sA,sB,sC]
   refine tk 4 (oi:=⟨_,_,_,_,_,_⟩) (v:= ?_) rfl (by kernel_rfl) (fun _ _ _ h=>h) (Or.inl ⟨by rfl, ?_⟩) (KE.out _ RF.out) ?_
   rotate_left
   ·(intro u hu;go_simp)
    try with_reducible rfl
   try simp only[Act.put,sA,sB,sC]
   refine tk 5 (oi:=⟨_,_,_,_,_,_⟩) (v:= ?_) rfl (by kernel_rfl) (fun _ _ _ h=>h) (Or.inl ⟨by rfl, ?_⟩) (KE.out _ RF.out) ?_
   rotate_left
   ·(intro u hu;go_simp)
    try with_reducible rfl
   try simp only[Act.put,sA,sB,sC]
   refine tk 6 (oi:=⟨_,_,_,_,_,_⟩) (v:= ?_) rfl (by kernel_rfl) (fun _ _ _ h=>h) (Or.inl ⟨by rfl, ?_⟩) (KE.out _ RF.out) ?_
   rotate_left
   ·(intro u hu;go_simp)
    try with_reducible rfl
   try simp only[Act.put,sA,sB,sC]
   refine tk 7 (oi:=⟨_,_,_,_,_,_⟩) (v:= .agg (AU fs[k]).toArray) rfl (by kernel_rfl) (fun _ _ _ h=>h) (yieldsIf_load_mid rfl 87 _ rfl b2 (off2+k*15) rfl (AU fs[k]) _ (fun u hu=>hu.2) Tryz.underlying87 rfl (show(Tryz.prog.info? 87).map (·.size)=some 15 by kernel_rfl)) (KE.out _ RF.out) ?_
   try simp only[Act.put,sA,sB,sC]
   refine Ha [(8,none),(9,none)] rfl (by kernel_rfl) (fun u hu=>KE.out u (Below.and RF.out hu)) ?_ ?_
   ·intro f g hf;simp at hf
   refine CW.op (o:=⟨_,_,_,_,_,_⟩) rfl (fun u1 l1 K hK=> ?_)
   refine Bm 40 [.tmp 20, .tmp 24] #[87,87] rfl (fun args w=>by go_simp) [.agg (AU es[k]).toArray, .agg (AU fs[k]).toArray] rfl (EQ.out u1 k hlt hlt2 (Below.and (Below.and BW.out RF.out) l1)) ?_
   rintro e x1 ⟨rfl,b1⟩
   refine⟨_,rfl,hK.out _ _ b1 ?_⟩
   clear hK K;have BX:=hq (Below.and (Below.and BW.out RF.out) (Below.and l1 b1))
   clear l1 b1;refine CW.op (o:=⟨_,_,_,_,_,_⟩) rfl (fun u2 l2 K hK=> ?_)
   have BY:=hq (Below.and BX.out l2)
   clear l2;refine Fx _ rfl true rfl (hK.out _ _ (Ltr.refl _) ?_)
   clear hK K;refine CW.done (fun u3 l3=> ?_)
   have BZ:=hq (Below.and BY.out l3)
   clear l3;go_wp2;go_roundw
   case rel=>exact⟨k+1,by omega,by go_num,BZ.out⟩
   case measure=>simp[intOf];omega
  ·have hi:¬(k:Int)<(es.length:Int):=by omega
   go_wp2;go_ret;exact⟨rfl,BW.out⟩

theorem Qi (v1 v2:Value) (es fs:List Ex) (w:World) (h1:Cr AM F6 w v1 es) (h2:Cr AM F6 w v2 fs) (hlk:Bs Eq es fs) :
  Calls Tryz.prog 37 #[v1,v2] w fun e w' =>e= .returned (.bool true)/\Below w.heap.size w w' :=by
 obtain⟨a,b,off,cap,rfl,hcap,hmax,ha,rg⟩:=h1.parts (K:=5) (fun _=>rfl)
 obtain⟨a2,b2,off2,cap2,rfl,hcap2,hmax2,ha2,rg2⟩:=h2.parts (K:=5) (fun _=>rfl)
 unfold maxLen at hmax hmax2;have hl:=hlk.1
 have EQ:=hq (fun i (hi:i<es.length) (hi' :i<fs.length)=>(hlk.2 i hi hi' :es[i]=fs[i]))
 have RG:=hq rg
 have RG2:=hq rg2
 have HA:=hq ha
 have HA2:=hq ha2
 have hne:((es.length:Int) != (fs.length:Int))=false:=by rw[bne_eq_false_iff_eq];omega
 have HL:=hq hl
 clear h1 h2 hlk rg rg2 ha ha2 hl;go_enter Tryz.func37,Tryz.ntmps37
 go_wp2;go_loopw [5] (fun i wr=>∃k:Nat,k<=es.length/\i= .int .i64 k/\Hid (Below w.heap.size w wr)) (fun i _=>es.length-(intOf i).toNat)
 case atStart=>exact⟨0,Nat.zero_le _,rfl,Below.refl _ _⟩
 case round=>
  obtain⟨k,hk,rfl,BW⟩:=hrel
  by_cases hlt:k<es.length
  ·have hlt2:k<fs.length:=by have:=HL.out;omega
   have hal:=HA.out (by omega)
   subst hal;have hal2:=HA2.out (by omega)
   subst hal2;have hi:(k:Int)<(es.length:Int):=by omega
   have hi2:(k:Int)<(fs.length:Int):=by omega
   go_upto_region 6 with fail
   have RF:=hq ((Below.refl wr.heap.size wr).drew)
   have KE:=hq (fun u (hu:Below wr.heap.size wr u)=>And.intro (RG.out u (Below.and BW.out hu) k hlt) (RG2.out u (Below.and BW.out hu) k hlt2))
   refine wp_region_held_drew (S:=fun u=>u.rangeAt b (off+k*5) (AM es[k])/\u.rangeAt b2 (off2+k*5) (AM fs[k])) (by kernel_rfl) (KE.out _ RF.out) (fun hH=> ?_)
   refine tk 0 (oi:=⟨_,_,_,_,_,_⟩) (v:= ?_) rfl (by kernel_rfl) (fun _ _ _ h=>h) (Or.inl ⟨by rfl, ?_⟩) (KE.out _ RF.out) ?_
   rotate_left
   ·(intro u hu;go_simp)
    try with_reducible rfl
   try simp only[Act.put,sA,sB,sC]
   refine tk 1 (oi:=⟨_,_,_,_,_,_⟩) (v:= ?_) rfl (by kernel_rfl) (fun _ _ _ h=>h) (Or.inl ⟨by rfl, ?_⟩) (KE.out _ RF.out) ?_
   rotate_left
   ·(intro u hu;go_simp)
    try with_reducible rfl
   try simp only[Act.put,sA,sB,sC]
   refine tk 2 (oi:=⟨_,_,_,_,_,_⟩) (v:= ?_) rfl (by kernel_rfl) (fun _ _ _ h=>h) (Or.inl ⟨by rfl, ?_⟩) (KE.out _ RF.out) ?_
   rotate_left
   ·(intro u hu;go_simp)
    try with_reducible rfl
   try simp only[Act.put,sA,sB,sC]
   refine tk 3 (oi:=⟨_,_,_,_,_,_⟩) (v:= .agg (AM es[k]).toArray) rfl (by kernel_rfl) (fun _ _ _ h=>h) (yieldsIf_load_mid rfl 117 _ rfl b (off+k*5) rfl (AM es[k]) _ (fun u hu=>hu.1) Tryz.underlying117 rfl (show(Tryz.prog.info? 117).map (·.size)=some 5 by kernel_rfl)) (KE.out _ RF.out) ?_
   try simp only[Act.put,sA,sB,sC]
   refine tk 4 (oi:=⟨_,_,_,_,_,_⟩) (v:= ?_) rfl (by kernel_rfl) (fun _ _ _ h=>h) (Or.inl ⟨by rfl, ?_⟩) (KE.out _ RF.out) ?_
   rotate_left
   ·(intro u hu;go_simp)
    try with_reducible rfl
   try simp only[Act.put,sA,sB,sC]
   refine tk 5 (oi:=⟨_,_,_,_,_,_⟩) (v:= ?_) rfl (by kernel_rfl) (fun _ _ _ h=>h) (Or.inl ⟨by rfl, ?_⟩) (KE.out _ RF.out) ?_
   rotate_left
   ·(intro u hu;go_simp)
    try with_reducible rfl
   try simp only[Act.put,sA,sB,sC]
   refine tk 6 (oi:=⟨_,_,_,_,_,_⟩) (v:= ?_) rfl (by kernel_rfl) (fun _ _ _ h=>h) (Or.inl ⟨by rfl, ?_⟩) (KE.out _ RF.out) ?_
   rotate_left
   ·(intro u hu;go_simp)
    try with_reducible rfl
   try simp only[Act.put,sA,sB,sC]
   refine tk 7 (oi:=⟨_,_,_,_,_,_⟩) (v:= .agg (AM fs[k]).toArray) rfl (by kernel_rfl) (fun _ _ _ h=>h) (yieldsIf_load_mid rfl 117 _ rfl b2 (off2+k*5) rfl (AM fs[k]) _ (fun u hu=>hu.2) Tryz.underlying117 rfl (show(Tryz.prog.info? 117).map (·.size)=some 5 by kernel_rfl)) (KE.out _ RF.out) ?_
   try simp only[Act.put,sA,sB,sC]
   refine Ha [(8,none),(9,none)] rfl (by kernel_rfl) (fun u hu=>KE.out u (Below.and RF.out hu)) ?_ ?_
   ·intro f g hf;simp at hf
   refine CW.op (o:=⟨_,_,_,_,_,_⟩) rfl (fun u1 l1 K hK=> ?_)
   refine Bm 86 [.tmp 20, .tmp 24] #[117,117] rfl (fun args w=>by go_simp) [.agg (AM es[k]).toArray, .agg (AM fs[k]).toArray] rfl ((by rw[←EQ.out k hlt hlt2];exact RS es[k] u1)) ?_
   rintro e x1 ⟨rfl,b1⟩
   refine⟨_,rfl,hK.out _ _ b1 ?_⟩
   clear hK K;have BX:=hq (Below.and (Below.and BW.out RF.out) (Below.and l1 b1))
   clear l1 b1;refine CW.op (o:=⟨_,_,_,_,_,_⟩) rfl (fun u2 l2 K hK=> ?_)
   have BY:=hq (Below.and BX.out l2)
   clear l2;refine Fx _ rfl true rfl (hK.out _ _ (Ltr.refl _) ?_)
   clear hK K;refine CW.done (fun u3 l3=> ?_)
   have BZ:=hq (Below.and BY.out l3)
   clear l3;go_wp2;go_roundw
   case rel=>exact⟨k+1,by omega,by go_num,BZ.out⟩
   case measure=>simp[intOf];omega
  ·have hi:¬(k:Int)<(es.length:Int):=by omega
   go_wp2;go_ret;exact⟨rfl,BW.out⟩

theorem OM (v1 v2:Value) (es fs:List Er) (w:World) (h1:Cr AN F6 w v1 es) (h2:Cr AN F6 w v2 fs) (hlk:Bs Eq es fs) :
  Calls Tryz.prog 39 #[v1,v2] w fun e w' =>e= .returned (.bool true)/\Below w.heap.size w w' :=by
 obtain⟨a,b,off,cap,rfl,hcap,hmax,ha,rg⟩:=h1.parts (K:=2) (fun _=>rfl)
 obtain⟨a2,b2,off2,cap2,rfl,hcap2,hmax2,ha2,rg2⟩:=h2.parts (K:=2) (fun _=>rfl)
 unfold maxLen at hmax hmax2;have hl:=hlk.1
 have EQ:=hq (fun i (hi:i<es.length) (hi' :i<fs.length)=>(hlk.2 i hi hi' :es[i]=fs[i]))
 have RG:=hq rg
 have RG2:=hq rg2
 have HA:=hq ha
 have HA2:=hq ha2
 have hne:((es.length:Int) != (fs.length:Int))=false:=by rw[bne_eq_false_iff_eq];omega
 have HL:=hq hl
 clear h1 h2 hlk rg rg2 ha ha2 hl;go_enter Tryz.func39,Tryz.ntmps39
 go_wp2;go_loopw [5] (fun i wr=>∃k:Nat,k<=es.length/\i= .int .i64 k/\Hid (Below w.heap.size w wr)) (fun i _=>es.length-(intOf i).toNat)
 case atStart=>exact⟨0,Nat.zero_le _,rfl,Below.refl _ _⟩
 case round=>
  obtain⟨k,hk,rfl,BW⟩:=hrel
  by_cases hlt:k<es.length
  ·have hlt2:k<fs.length:=by have:=HL.out;omega
   have hal:=HA.out (by omega)
   subst hal;have hal2:=HA2.out (by omega)
   subst hal2;have hi:(k:Int)<(es.length:Int):=by omega
   have hi2:(k:Int)<(fs.length:Int):=by omega
   go_upto_region 6 with fail
   have RF:=hq ((Below.refl wr.heap.size wr).drew)
   have KE:=hq (fun u (hu:Below wr.heap.size wr u)=>And.intro (RG.out u (Below.and BW.out hu) k hlt) (RG2.out u (Below.and BW.out hu) k hlt2))
   refine wp_region_held_drew (S:=fun u=>u.rangeAt b (off+k*2) (AN es[k])/\u.rangeAt b2 (off2+k*2) (AN fs[k])) (by kernel_rfl) (KE.out _ RF.out) (fun hH=> ?_)
   refine tk 0 (oi:=⟨_,_,_,_,_,_⟩) (v:= ?_) rfl (by kernel_rfl) (fun _ _ _ h=>h) (Or.inl ⟨by rfl, ?_⟩) (KE.out _ RF.out) ?_
   rotate_left
   ·(intro u hu;go_simp)
    try with_reducible rfl
   try simp only[Act.put,sA,sB,sC]
   refine tk 1 (oi:=⟨_,_,_,_,_,_⟩) (v:= ?_) rfl (by kernel_rfl) (fun _ _ _ h=>h) (Or.inl ⟨by rfl, ?_⟩) (KE.out _ RF.out) ?_
   rotate_left
   ·(intro u hu;go_simp)
    try with_reducible rfl
   try simp only[Act.put,sA,sB,sC]
   refine tk 2 (oi:=⟨_,_,_,_,_,_⟩) (v:= ?_) rfl (by kernel_rfl) (fun _ _ _ h=>h) (Or.inl ⟨by rfl, ?_⟩) (KE.out _ RF.out) ?_
   rotate_left
   ·(intro u hu;go_simp)
    try with_reducible rfl
   try simp only[Act.put,sA,sB,sC]
   refine tk 3 (oi:=⟨_,_,_,_,_,_⟩) (v:= .agg (AN es[k]).toArray) rfl (by kernel_rfl) (fun _ _ _ h=>h) (yieldsIf_load_mid rfl 121 _ rfl b (off+k*2) rfl (AN es[k]) _ (fun u hu=>hu.1) Tryz.underlying121 rfl (show(Tryz.prog.info? 121).map (·.size)=some 2 by kernel_rfl)) (KE.out _ RF.out) ?_
   try simp only[Act.put,sA,sB,sC]
   refine tk 4 (oi:=⟨_,_,_,_,_,_⟩) (v:= ?_) rfl (by kernel_rfl) (fun _ _ _ h=>h) (Or.inl ⟨by rfl, ?_⟩) (KE.out _ RF.out) ?_
   rotate_left
   ·(intro u hu;go_simp)
    try with_reducible rfl
   try simp only[Act.put,sA,sB,sC]
   refine tk 5 (oi:=⟨_,_,_,_,_,_⟩) (v:= ?_) rfl (by kernel_rfl) (fun _ _ _ h=>h) (Or.inl ⟨by rfl, ?_⟩) (KE.out _ RF.out) ?_
   rotate_left
   ·(intro u hu;go_simp)
    try with_reducible rfl
   try simp only[Act.put,sA,sB,sC]
   refine tk 6 (oi:=⟨_,_,_,_,_,_⟩) (v:= ?_) rfl (by kernel_rfl) (fun _ _ _ h=>h) (Or.inl ⟨by rfl, ?_⟩) (KE.out _ RF.out) ?_
   rotate_left
   ·(intro u hu;go_simp)
    try with_reducible rfl
   try simp only[Act.put,sA,sB,sC]
   refine tk 7 (oi:=⟨_,_,_,_,_,_⟩) (v:= .agg (AN fs[k]).toArray) rfl (by kernel_rfl) (fun _ _ _ h=>h) (yieldsIf_load_mid rfl 121 _ rfl b2 (off2+k*2) rfl (AN fs[k]) _ (fun u hu=>hu.2) Tryz.underlying121 rfl (show(Tryz.prog.info? 121).map (·.size)=some 2 by kernel_rfl)) (KE.out _ RF.out) ?_
   try simp only[Act.put,sA,sB,sC]
   refine Ha [(8,none),(9,none)] rfl (by kernel_rfl) (fun u hu=>KE.out u (Below.and RF.out hu)) ?_ ?_
   ·intro f g hf;simp at hf
   refine CW.op (o:=⟨_,_,_,_,_,_⟩) rfl (fun u1 l1 K hK=> ?_)
   refine Bm 88 [.tmp 20, .tmp 24] #[121,121] rfl (fun args w=>by go_simp) [.agg (AN es[k]).toArray, .agg (AN fs[k]).toArray] rfl ((by rw[←EQ.out k hlt hlt2];exact Qq es[k] u1)) ?_
   rintro e x1 ⟨rfl,b1⟩
   refine⟨_,rfl,hK.out _ _ b1 ?_⟩
   clear hK K;have BX:=hq (Below.and (Below.and BW.out RF.out) (Below.and l1 b1))
   clear l1 b1;refine CW.op (o:=⟨_,_,_,_,_,_⟩) rfl (fun u2 l2 K hK=> ?_)
   have BY:=hq (Below.and BX.out l2)
   clear l2;refine Fx _ rfl true rfl (hK.out _ _ (Ltr.refl _) ?_)
   clear hK K;refine CW.done (fun u3 l3=> ?_)
   have BZ:=hq (Below.and BY.out l3)
   clear l3;go_wp2;go_roundw
   case rel=>exact⟨k+1,by omega,by go_num,BZ.out⟩
   case measure=>simp[intOf];omega
  ·have hi:¬(k:Int)<(es.length:Int):=by omega
   go_wp2;go_ret;exact⟨rfl,BW.out⟩
end
section
open Go.RowKit

structure WrV where
 sz:Int
 nv:Value
 rv:Value
 cv:Value
 av:Value
 lv:Value
abbrev WrV.val (W:WrV):Value:= .agg #[.int .i64 W.sz,W.nv,W.rv,W.cv,W.av,W.lv]
structure Wd where
 ns:List BH
 rs:List BU
 cs:List Ex
 ds:DL
 ls:List Er
def CG (n:Nat) (w:World) (W:WrV) (D:Wd):Prop:=
 Cr Ax (Du n) w W.nv D.ns/\Cr AU (Dw n) w W.rv D.rs/\Cr AM F6 w W.cv D.cs/\Row w W.av D.ds.length (Au D.ds)/\Cr AN F6 w W.lv D.ls
theorem FP (n:Nat):∀w u e,Du n w e->Below w.heap.size w u->Du n u e:=fun _ _ _ h hb=>Bq.below h hb
theorem FH (n:Nat):∀w u e,Dw n w e->Below w.heap.size w u->Dw n u e:=fun _ _ _ h hb=>Cu.below h hb
theorem Et {ε :Type}:∀(w u:World) (e: ε),F6 w e->Below w.heap.size w u->F6 u e:=fun _ _ _ _ _=>trivial
theorem CG.below {n:Nat} {w u:World} {W:WrV} {D:Wd} (h:CG n w W D) (hb:Below w.heap.size w u):CG n u W D:=
 ⟨h.1.below (FP n) hb,h.2.1.below (FH n) hb,h.2.2.1.below Et hb,h.2.2.2.1.below hb,h.2.2.2.2.below Et hb⟩
structure Wd.small (n:Nat) (D:Wd):Prop where
 n1:∀e∈D.ns,e.2.small n
 r1:∀e∈D.rs,e.2.small n
 n:D.ns.length<=1048576
 r:D.rs.length<=1048576
 c:D.cs.length<=1048576
 d:D.ds.length<=1048576
 l:D.ls.length<=1048576
structure Wd.like (D E:Wd):Prop where
 n:Bs Dv D.ns E.ns
 r:Bs Dx D.rs E.rs
 c:D.cs=E.cs
 d:D.ds=E.ds
 l:D.ls=E.ls
def Wd.tot (n:Nat) (D:Wd):Nat:=D.ns.length+AC (GD n) D.ns D.ns.length+D.rs.length+AC (GL n) D.rs D.rs.length+D.cs.length+D.ds.length+D.ls.length
theorem Bs.eq {ε :Type} {es fs:List ε} (h:Bs Eq es fs):es=fs:=List.ext_getElem h.1 h.2
theorem Bs.refl {ε :Type} {lk: ε -> ε ->Prop} (hr:∀e,lk e e) (es:List ε):Bs lk es es:=⟨rfl,fun _ _ _=>hr _⟩
theorem Bs.both {ε :Type} {lk: ε -> ε ->Prop} (hb:∀e f g,lk e f->lk e g->lk f g) {es fs gs:List ε} (h:Bs lk es fs) (k:Bs lk es gs):Bs lk fs gs:=
 ⟨h.1.symm.trans k.1,fun i h1 h2=>hb _ _ _ (h.2 i (by have:=h.1;omega) h1) (k.2 i (by have:=h.1;omega) h2)⟩
theorem Dv.both (e f g:BH) (h:Dv e f) (k:Dv e g):Dv f g:=by
 obtain⟨⟨a1,a2,a3,a4,a5,a6,a7⟩,a8⟩:=h
 obtain⟨⟨b1,b2,b3,b4,b5,b6,b7⟩,b8⟩:=k
 exact⟨⟨a1.symm.trans b1,a2.symm.trans b2,a3.symm.trans b3,a4.symm.trans b4,a5.symm.trans b5,a6.symm.trans b6,a7.symm.trans b7⟩,a8.symm.trans b8⟩
theorem Dx.both (e f g:BU) (h:Dx e f) (k:Dx e g):Dx f g:=by
 obtain⟨⟨a1,a2,a3,a4,a5,a6,a7,a9⟩,a8⟩:=h
 obtain⟨⟨b1,b2,b3,b4,b5,b6,b7,b9⟩,b8⟩:=k
 exact⟨⟨a1.symm.trans b1,a2.symm.trans b2,a3.symm.trans b3,a4.symm.trans b4,a5.symm.trans b5,a6.symm.trans b6,a7.symm.trans b7,a9.symm.trans b9⟩,a8.symm.trans b8⟩
theorem Wd.like.both {D E F:Wd} (h:D.like E) (k:D.like F):E.like F:=⟨h.n.both Dv.both k.n,h.r.both Dx.both k.r,h.c.symm.trans k.c,h.d.symm.trans k.d,h.l.symm.trans k.l⟩
theorem Wd.small.like {n:Nat} {D E:Wd} (h:D.small n) (k:D.like E):E.small n:=by
 refine⟨fun e he=> ?_,fun e he=> ?_,k.n.1 ▸ h.n,k.r.1 ▸ h.r,k.c ▸ h.c,k.d ▸ h.d,k.l ▸ h.l⟩
 ·obtain⟨i,hi,rfl⟩:=List.getElem_of_mem he
  have hi' :i<D.ns.length:=by have:=k.n.1;omega
  rw[←(k.n.2 i hi' hi).2]
  exact h.n1 _ (List.getElem_mem hi')
 ·obtain⟨i,hi,rfl⟩:=List.getElem_of_mem he
  have hi' :i<D.rs.length:=by have:=k.r.1;omega
  rw[←(k.r.2 i hi' hi).2]
  exact h.r1 _ (List.getElem_mem hi')
theorem Cr.len {ε :Type} {cs: ε ->List Value} {At:World-> ε ->Prop} {w:World} {v:Value} {es:List ε} (h:Cr cs At w v es):∃(a:Option Addr) (cap:Nat),v= .slice a es.length cap/\es.length<=maxLen:=by
 obtain⟨a,_,_,cap,h1,h2,h3,_⟩:=h.1
 exact⟨a,cap,h1,Nat.le_trans h2 h3⟩

theorem O9 (n:Nat) (W:WrV) (D:Wd) (w:World) (h:CG n w W D) :
  Calls Tryz.prog 5 #[W.val, .int .i64 1048576] w fun e w' =>∃r:Int,e= .returned (.int .i64 r)/\r<=1048576/\(¬r<0->D.small n/\r+(D.tot n:Nat)<=1048576)/\Below w.heap.size w w' :=by
 obtain⟨sz,nv,rv,cv,av,lv⟩:=W
 obtain⟨q1,q2,q3,q4,q5⟩:=h
 obtain⟨na,nc,hnv,_⟩:=q1.len
 obtain⟨ra,rc,hrv,_⟩:=q2.len
 obtain⟨ca,cc,hcv,hlc⟩:=q3.len
 obtain⟨da,dc,hav,hld⟩:=q4.len
 obtain⟨la,lc,hlv,hll⟩:=q5.len
 simp only at hnv hrv hcv hav hlv
 subst hnv hrv hcv hav hlv;have S1:=hq (fun u (L:Int) (hu:Below w.heap.size w u) (a:0<=L) (b:L<=1048576)=>OI n _ D.ns L u (q1.below (FP n) hu) a b)
 have S2:=hq (fun u (L:Int) (hu:Below w.heap.size w u) (a:0<=L) (b:L<=1048576)=>Qp n _ D.rs L u (q2.below (FH n) hu) a b)
 have S3:=hq (fun u (L:Int) (a:0<=L) (b:L<=1048576)=>Nb ca D.cs.length cc L hlc a b u)
 have S4:=hq (fun u (L:Int) (a:0<=L) (b:L<=1048576)=>Ia da D.ds.length dc L hld a b u)
 have S5:=hq (fun u (L:Int) (a:0<=L) (b:L<=1048576)=>K7 la D.ls.length lc L hll a b u)
 have FIN:Hid (∀r1 r2 r3:Int,r1+D.ns.length+(AC (GD n) D.ns D.ns.length:Nat)<=1048576->0<=r1->r2+D.rs.length+(AC (GL n) D.rs D.rs.length:Nat)<=r1->0<=r3->r3=r2-D.cs.length-D.ds.length-D.ls.length->D.small n/\r3+(D.tot n:Nat)<=1048576):=fun r1 r2 r3 a b c d e=>
  ⟨⟨fun x hx=>Nd.small_all (by have:=Om (GD n) D.ns x hx;unfold GD at *;omega),fun x hx=>Rd.small_all (by have:=Om (GL n) D.rs x hx;unfold GL at *;omega),by omega,by omega,by omega,by omega,by omega⟩,by unfold Wd.tot;omega⟩
 clear q1 q2 q3 q4 q5 hlc hld hll;generalize D.small n=SM at *
 generalize D.tot n=tt at *
 generalize (AC (GD n) D.ns D.ns.length:Nat)=sn at *
 generalize (AC (GL n) D.rs D.rs.length:Nat)=sr at *
 generalize D.ns.length=ln at *
 generalize D.rs.length=lr at *
 generalize D.cs.length=lk at *
 generalize D.ds.length=ld at *
 generalize D.ls.length=ll at *
 have N1:Hid (Ai 28 (w.alloc (.cells #[.int .i64 sz, .slice na ln nc, .slice ra lr rc, .slice ca lk cc, .slice da ld dc, .slice la ll lc] 28)) w.heap.size #[.int .i64 sz, .slice na ln nc, .slice ra lr rc, .slice ca lk cc, .slice da ld dc, .slice la ll lc]):=Ai.start _ w _
 have B1:Hid (Below w.heap.size w (w.alloc (.cells #[.int .i64 sz, .slice na ln nc, .slice ra lr rc, .slice ca lk cc, .slice da ld dc, .slice la ll lc] 28))):=Ae _ _
 have c1:=N1.out.cells
 show Calls Tryz.prog 5 #[.agg #[.int .i64 sz, .slice na ln nc, .slice ra lr rc, .slice ca lk cc, .slice da ld dc, .slice la ll lc], .int .i64 1048576] w _
 go_enter Tryz.func5,Tryz.ntmps5
 go_wp2_with fail;generalize w.alloc (.cells #[.int .i64 sz, .slice na ln nc, .slice ra lr rc, .slice ca lk cc, .slice da ld dc, .slice la ll lc] 28)=W at *
 refine(S1.out _ 1048576 B1.out (by omega) (by omega)).mono ?_
 rintro e w1 ⟨r1,rfl,t1,t2,b1⟩
 replace B1:=hq (Below.and B1.out b1)
 replace N1:=hq (N1.out.step b1)
 have T1:=hq t2
 clear b1 c1 t2;have c1:=N1.out.cells
 by_cases p1:r1<0
 ·go_wp2;go_ret;exact⟨_,rfl,by omega,fun h=>by omega,B1.out⟩
 go_wp2_with fail;refine(S2.out _ r1 B1.out (by omega) (by omega)).mono ?_
 rintro e w2 ⟨r2,rfl,t3,t2,b2⟩
 replace B1:=hq (Below.and B1.out b2)
 replace N1:=hq (N1.out.step b2)
 have T2:=hq t2
 clear b2 c1 t2;have c1:=N1.out.cells
 by_cases p2:r2<0
 ·go_wp2;go_ret;exact⟨_,rfl,by omega,fun h=>by omega,B1.out⟩
 go_wp2_with fail;refine(S3.out _ r2 (by omega) (by omega)).mono ?_
 rintro e w3 ⟨rfl,rfl⟩
 by_cases p3:(lk:Int)<=r2
 ·rw[if_pos p3]
  go_wp2_with fail;refine(S4.out _ (r2-lk) (by omega) (by omega)).mono ?_
  rintro e w4 ⟨rfl,rfl⟩
  by_cases p4:(ld:Int)<=r2-lk
  ·rw[if_pos p4]
   go_wp2_with fail;refine(S5.out _ (r2-lk-ld) (by omega) (by omega)).mono ?_
   rintro e w5 ⟨rfl,rfl⟩
   by_cases p5:(ll:Int)<=r2-lk-ld
   ·rw[if_pos p5]
    go_wp2;go_ret;exact⟨_,rfl,by omega,fun _=>FIN.out r1 r2 _ (T1.out p1) (by omega) (T2.out p2) (by omega) rfl,B1.out⟩
   ·rw[if_neg p5]
    go_wp2;go_ret;exact⟨_,rfl,by omega,fun h=>by omega,B1.out⟩
  ·rw[if_neg p4]
   go_wp2;go_ret;exact⟨_,rfl,by omega,fun h=>by omega,B1.out⟩
 ·rw[if_neg p3]
  go_wp2;go_ret;exact⟨_,rfl,by omega,fun h=>by omega,B1.out⟩
theorem JS (n:Nat) (W V:WrV) (D E:Wd) (w:World) (hs:W.sz=V.sz) (hl:D.like E) (h:CG n w W D) (h2:CG n w V E) :
  Calls Tryz.prog 11 #[W.val,V.val] w fun e w' =>e= .returned (.bool true)/\Below w.heap.size w w' :=by
 obtain⟨sz,nv,rv,cv,av,lv⟩:=W
 obtain⟨sz2,nv2,rv2,cv2,av2,lv2⟩:=V
 simp only at hs
 subst hs;obtain⟨q1,q2,q3,q4,q5⟩:=h
 obtain⟨k1,k2,k3,k4,k5⟩:=h2
 have S1:=hq (fun u (hu:Below w.heap.size w u)=>Pv n nv nv2 D.ns E.ns u (q1.below (FP n) hu) (k1.below (FP n) hu) hl.n)
 have S2:=hq (fun u (hu:Below w.heap.size w u)=>Qk n rv rv2 D.rs E.rs u (q2.below (FH n) hu) (k2.below (FH n) hu) hl.r)
 have S3:=hq (fun u (hu:Below w.heap.size w u)=>Qi cv cv2 D.cs E.cs u (q3.below Et hu) (k3.below Et hu) (by rw[hl.c];exact Bs.refl (fun _=>rfl) _))
 have S4:=hq (fun u (hu:Below w.heap.size w u)=>H3 av av2 D.ds E.ds u (q4.below hu) (k4.below hu))
 have S5:=hq (fun u (hu:Below w.heap.size w u)=>OM lv lv2 D.ls E.ls u (q5.below Et hu) (k5.below Et hu) (by rw[hl.l];exact Bs.refl (fun _=>rfl) _))
 have ED:Hid (decide (D.ds=E.ds)=true):=decide_eq_true hl.d
 obtain⟨na,nc,hn,_⟩:=q1.len
 obtain⟨na2,nc2,hn2,_⟩:=k1.len
 obtain⟨ra,rc,hr,_⟩:=q2.len
 obtain⟨ra2,rc2,hr2,_⟩:=k2.len
 obtain⟨ca,cc,hc,_⟩:=q3.len
 obtain⟨ca2,cc2,hc2,_⟩:=k3.len
 obtain⟨da,dc,hd,_⟩:=q4.len
 obtain⟨da2,dc2,hd2,_⟩:=k4.len
 obtain⟨la,lc,hll,_⟩:=q5.len
 obtain⟨la2,lc2,hll2,_⟩:=k5.len
 simp only at hn hn2 hr hr2 hc hc2 hd hd2 hll hll2
 subst hn hn2 hr hr2 hc hc2 hd hd2 hll hll2;clear q1 q2 q3 q4 q5 k1 k2 k3 k4 k5 hl;have N1:=hq ((Ai.start 37 w #[.int .i64 sz, .slice na D.ns.length nc, .slice ra D.rs.length rc, .slice ca D.cs.length cc, .slice da D.ds.length dc, .slice la D.ls.length lc]).step (Ae _ (.cells #[.int .i64 sz, .slice na2 E.ns.length nc2, .slice ra2 E.rs.length rc2, .slice ca2 E.cs.length cc2, .slice da2 E.ds.length dc2, .slice la2 E.ls.length lc2] 37)))
 have N2:=hq (Ai.start 37 (w.alloc (.cells #[.int .i64 sz, .slice na D.ns.length nc, .slice ra D.rs.length rc, .slice ca D.cs.length cc, .slice da D.ds.length dc, .slice la D.ls.length lc] 37)) #[.int .i64 sz, .slice na2 E.ns.length nc2, .slice ra2 E.rs.length rc2, .slice ca2 E.cs.length cc2, .slice da2 E.ds.length dc2, .slice la2 E.ls.length lc2])
 have B1:Hid (Below w.heap.size w ((w.alloc (.cells #[.int .i64 sz, .slice na D.ns.length nc, .slice ra D.rs.length rc, .slice ca D.cs.length cc, .slice da D.ds.length dc, .slice la D.ls.length lc] 37)).alloc (.cells #[.int .i64 sz, .slice na2 E.ns.length nc2, .slice ra2 E.rs.length rc2, .slice ca2 E.cs.length cc2, .slice da2 E.ds.length dc2, .slice la2 E.ls.length lc2] 37))):=Below.and (Ae _ _) (Ae _ _)
 have c1:=N1.out.cells
 have c2:=N2.out.cells
 simp only[World.size_alloc] at c2 N2
 show Calls Tryz.prog 11 #[.agg #[.int .i64 sz, .slice na D.ns.length nc, .slice ra D.rs.length rc, .slice ca D.cs.length cc, .slice da D.ds.length dc, .slice la D.ls.length lc], .agg #[.int .i64 sz, .slice na2 E.ns.length nc2, .slice ra2 E.rs.length rc2, .slice ca2 E.cs.length cc2, .slice da2 E.ds.length dc2, .slice la2 E.ls.length lc2]] w _
 go_enter Tryz.func11,Tryz.ntmps11
 go_wp2_with fail;generalize ((w.alloc (.cells #[.int .i64 sz, .slice na D.ns.length nc, .slice ra D.rs.length rc, .slice ca D.cs.length cc, .slice da D.ds.length dc, .slice la D.ls.length lc] 37)).alloc (.cells #[.int .i64 sz, .slice na2 E.ns.length nc2, .slice ra2 E.rs.length rc2, .slice ca2 E.cs.length cc2, .slice da2 E.ds.length dc2, .slice la2 E.ls.length lc2] 37))=W at *
 refine(S1.out _ B1.out).mono ?_
 rintro e w1 ⟨rfl,b1⟩
 replace B1:=hq (Below.and B1.out b1)
 replace N1:=hq (N1.out.step b1)
 replace N2:=hq (N2.out.step b1)
 clear b1 c1 c2;have c1:=N1.out.cells
 have c2:=N2.out.cells
 go_wp2_with fail;refine(S2.out _ B1.out).mono ?_
 rintro e w2 ⟨rfl,b1⟩
 replace B1:=hq (Below.and B1.out b1)
 replace N1:=hq (N1.out.step b1)
 replace N2:=hq (N2.out.step b1)
 clear b1 c1 c2;have c1:=N1.out.cells
 have c2:=N2.out.cells
 go_wp2_with fail;refine(S3.out _ B1.out).mono ?_
 rintro e w3 ⟨rfl,b1⟩
 replace B1:=hq (Below.and B1.out b1)
 replace N1:=hq (N1.out.step b1)
 replace N2:=hq (N2.out.step b1)
 clear b1 c1 c2;have c1:=N1.out.cells
 have c2:=N2.out.cells
 go_wp2_with fail;refine(S4.out _ B1.out).mono ?_
 rintro e w4 ⟨rfl,b1⟩
 rw[ED.out]
 replace B1:=hq (Below.and B1.out b1)
 replace N1:=hq (N1.out.step b1)
 replace N2:=hq (N2.out.step b1)
 clear b1 c1 c2;have c1:=N1.out.cells
 have c2:=N2.out.cells
 go_wp2_with fail;refine(S5.out _ B1.out).mono ?_
 rintro e w5 ⟨rfl,b1⟩
 replace B1:=hq (Below.and B1.out b1)
 replace N1:=hq (N1.out.step b1)
 replace N2:=hq (N2.out.step b1)
 clear b1 c1 c2;go_wp2;go_ret;exact⟨rfl,B1.out⟩
end
end Go.Proofs.YtkcaelfkcepdkaaGreat
