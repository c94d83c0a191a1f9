/-
  Lists of structs: compared.
  A world in memory: the laws' own functions that measure and compare it.
-/
import Derived.Test.YtdcladffnjikkaaOfWn16
import Derived.Test.YtdcladffnjikkaaOfWn22
import Derived.Test.YtdcladffnjikkaaOfWn26
import Derived.Test.YtdcladffnjikkaaOfWn11
import Derived.Test.YtdcladffnjikkaaOfWn3
import Derived.Test.YtdcladffnjikkaaOfWn25
import Derived.Test.YtdcladffnjikkaaOfWn2
namespace Go.Proofs.Ytdcladffnjikkaa
set_option maxRecDepth 100000
set_option maxHeartbeats 8000000
section
open Go.RowKit

theorem eqNodeS_t (n : Nat) (v1 v2 : Value) (es fs : List NodE) (w : World) (h1 : LsAt nodC (nodAt n) w v1 es) (h2 : LsAt nodC (nodAt n) w v2 fs) (hlk : LsLk nodLk es fs) :
  Calls Try.prog 13 #[v1, v2] w fun e w' => e = .returned (.bool true) ∧ Below w.heap.size w w' := by
 obtain ⟨a, b, off, cap, rfl, hcap, hmax, ha, rg⟩ := h1.parts (K := 23) (fun _ => rfl)
 obtain ⟨a2, b2, off2, cap2, rfl, hcap2, hmax2, ha2, rg2⟩ := h2.parts (K := 23) (fun _ => rfl)
 unfold maxLen at hmax hmax2
 have hl := hlk.1
 have EQ := hq (fun u i (hi : i < es.length) (hi' : i < fs.length) (hu : Below w.heap.size w u) => by
  have h3 := h2.2 _ (List.getElem_mem hi')
  have hk := hlk.2 i hi hi'
  unfold nodLk at hk
  unfold nodAt at h3
  rw [← hk.2] at h3
  exact eqNode_any n es[i].1 fs[i].1 es[i].2 u hk.1 ((h1.2 _ (List.getElem_mem hi)).below hu) (h3.below hu))
 have RG := hq rg
 have RG2 := hq rg2
 have HA := hq ha
 have HA2 := hq ha2
 have hne : ((es.length : Int) != (fs.length : Int)) = false := by rw [bne_eq_false_iff_eq]; omega
 have HL := hq hl
 clear h1 h2 hlk rg rg2 ha ha2 hl
 go_enter Try.func13, Try.ntmps13
 go_wp2
 go_loopw [5] (fun i wr => ∃ k : Nat, k ≤ es.length ∧ i = .int .i64 k ∧ Hid (Below w.heap.size w wr)) (fun i _ => es.length - (intOf i).toNat)
 case atStart => exact ⟨0, Nat.zero_le _, rfl, Below.refl _ _⟩
 case round =>
  obtain ⟨k, hk, rfl, BW⟩ := hrel
  by_cases hlt : k < es.length
  ·have hlt2 : k < fs.length := by have := HL.out; omega
   have hal := HA.out (by omega)
   subst hal
   have hal2 := HA2.out (by omega)
   subst hal2
   have hi : (k : Int) < (es.length : Int) := by omega
   have hi2 : (k : Int) < (fs.length : Int) := by omega
   go_upto_region 6 with fail
   have RF := hq ((Below.refl wr.heap.size wr).drew)
   have KE := hq (fun u (hu : Below wr.heap.size wr u) => And.intro (RG.out u (Below.and BW.out hu) k hlt) (RG2.out u (Below.and BW.out hu) k hlt2))
   refine wp_region_held_drew (S := fun u => u.rangeAt b (off + k * 23) (nodC es[k]) ∧ u.rangeAt b2 (off2 + k * 23) (nodC fs[k])) (by kernel_rfl) (KE.out _ RF.out) (fun hH => ?_)
   refine tk 0 (oi := ⟨_, _, _, _, _, _⟩) (v := ?_) rfl (by kernel_rfl) (fun _ _ _ h => h) (Or.inl ⟨by rfl, ?_⟩) (KE.out _ RF.out) ?_
   rotate_left
   ·(intro u hu; go_simp)
    try with_reducible rfl
   try simp only [Act.put, sA, sB, sC]
   refine tk 1 (oi := ⟨_, _, _, _, _, _⟩) (v := ?_) rfl (by kernel_rfl) (fun _ _ _ h => h) (Or.inl ⟨by rfl, ?_⟩) (KE.out _ RF.out) ?_
   rotate_left
   ·(intro u hu; go_simp)
    try with_reducible rfl
   try simp only [Act.put, sA, sB, sC]
   refine tk 2 (oi := ⟨_, _, _, _, _, _⟩) (v := ?_) rfl (by kernel_rfl) (fun _ _ _ h => h) (Or.inl ⟨by rfl, ?_⟩) (KE.out _ RF.out) ?_
   rotate_left
   ·(intro u hu; go_simp)
    try with_reducible rfl
   try simp only [Act.put, sA, sB, sC]
   refine tk 3 (oi := ⟨_, _, _, _, _, _⟩) (v := .agg (nodC es[k]).toArray) rfl (by kernel_rfl) (fun _ _ _ h => h) (yieldsIf_load_mid rfl 48 _ rfl b (off + k * 23) rfl (nodC es[k]) _ (fun u hu => hu.1) Try.underlying48 rfl (show (Try.prog.info? 48).map (·.size) = some 23 by kernel_rfl)) (KE.out _ RF.out) ?_
   try simp only [Act.put, sA, sB, sC]
   refine tk 4 (oi := ⟨_, _, _, _, _, _⟩) (v := ?_) rfl (by kernel_rfl) (fun _ _ _ h => h) (Or.inl ⟨by rfl, ?_⟩) (KE.out _ RF.out) ?_
   rotate_left
   ·(intro u hu; go_simp)
    try with_reducible rfl
   try simp only [Act.put, sA, sB, sC]
   refine tk 5 (oi := ⟨_, _, _, _, _, _⟩) (v := ?_) rfl (by kernel_rfl) (fun _ _ _ h => h) (Or.inl ⟨by rfl, ?_⟩) (KE.out _ RF.out) ?_
   rotate_left
   ·(intro u hu; go_simp)
    try with_reducible rfl
   try simp only [Act.put, sA, sB, sC]
   refine tk 6 (oi := ⟨_, _, _, _, _, _⟩) (v := ?_) rfl (by kernel_rfl) (fun _ _ _ h => h) (Or.inl ⟨by rfl, ?_⟩) (KE.out _ RF.out) ?_
   rotate_left
   ·(intro u hu; go_simp)
    try with_reducible rfl
   try simp only [Act.put, sA, sB, sC]
   refine tk 7 (oi := ⟨_, _, _, _, _, _⟩) (v := .agg (nodC fs[k]).toArray) rfl (by kernel_rfl) (fun _ _ _ h => h) (yieldsIf_load_mid rfl 48 _ rfl b2 (off2 + k * 23) rfl (nodC fs[k]) _ (fun u hu => hu.2) Try.underlying48 rfl (show (Try.prog.info? 48).map (·.size) = some 23 by kernel_rfl)) (KE.out _ RF.out) ?_
   try simp only [Act.put, sA, sB, sC]
   refine wp_chain [(8, none), (9, none)] rfl (by kernel_rfl) (fun u hu => KE.out u (Below.and RF.out hu)) ?_ ?_
   ·intro f g hf
    simp at hf
   refine CW.op (o := ⟨_, _, _, _, _, _⟩) rfl (fun u1 l1 K hK => ?_)
   refine call_by 34 [.tmp 20, .tmp 24] #[48, 48] rfl (fun args w => by go_simp) [.agg (nodC es[k]).toArray, .agg (nodC fs[k]).toArray] rfl (EQ.out u1 k hlt hlt2 (Below.and (Below.and BW.out RF.out) l1)) ?_
   rintro e x1 ⟨rfl, b1⟩
   refine ⟨_, rfl, hK.out _ _ b1 ?_⟩
   clear hK K
   have BX := hq (Below.and (Below.and BW.out RF.out) (Below.and l1 b1))
   clear l1 b1
   refine CW.op (o := ⟨_, _, _, _, _, _⟩) rfl (fun u2 l2 K hK => ?_)
   have BY := hq (Below.and BX.out l2)
   clear l2
   refine wp_not_by _ rfl true rfl (hK.out _ _ (Ltr.refl _) ?_)
   clear hK K
   refine CW.done (fun u3 l3 => ?_)
   have BZ := hq (Below.and BY.out l3)
   clear l3
   go_wp2
   go_roundw
   case rel => exact ⟨k + 1, by omega, by go_num, BZ.out⟩
   case measure => simp [intOf]; omega
  ·have hi : ¬ (k : Int) < (es.length : Int) := by omega
   go_wp2
   go_ret
   exact ⟨rfl, BW.out⟩

theorem eqRpcS_t (n : Nat) (v1 v2 : Value) (es fs : List RpcE) (w : World) (h1 : LsAt rpcC (rpcAt n) w v1 es) (h2 : LsAt rpcC (rpcAt n) w v2 fs) (hlk : LsLk rpcLk es fs) :
  Calls Try.prog 14 #[v1, v2] w fun e w' => e = .returned (.bool true) ∧ Below w.heap.size w w' := by
 obtain ⟨a, b, off, cap, rfl, hcap, hmax, ha, rg⟩ := h1.parts (K := 15) (fun _ => rfl)
 obtain ⟨a2, b2, off2, cap2, rfl, hcap2, hmax2, ha2, rg2⟩ := h2.parts (K := 15) (fun _ => rfl)
 unfold maxLen at hmax hmax2
 have hl := hlk.1
 have EQ := hq (fun u i (hi : i < es.length) (hi' : i < fs.length) (hu : Below w.heap.size w u) => by
  have h3 := h2.2 _ (List.getElem_mem hi')
  have hk := hlk.2 i hi hi'
  unfold rpcLk at hk
  unfold rpcAt at h3
  rw [← hk.2] at h3
  exact eqRpc_any n es[i].1 fs[i].1 es[i].2 u hk.1 ((h1.2 _ (List.getElem_mem hi)).below hu) (h3.below hu))
 have RG := hq rg
 have RG2 := hq rg2
 have HA := hq ha
 have HA2 := hq ha2
 have hne : ((es.length : Int) != (fs.length : Int)) = false := by rw [bne_eq_false_iff_eq]; omega
 have HL := hq hl
 clear h1 h2 hlk rg rg2 ha ha2 hl
 go_enter Try.func14, Try.ntmps14
 go_wp2
 go_loopw [5] (fun i wr => ∃ k : Nat, k ≤ es.length ∧ i = .int .i64 k ∧ Hid (Below w.heap.size w wr)) (fun i _ => es.length - (intOf i).toNat)
 case atStart => exact ⟨0, Nat.zero_le _, rfl, Below.refl _ _⟩
 case round =>
  obtain ⟨k, hk, rfl, BW⟩ := hrel
  by_cases hlt : k < es.length
  ·have hlt2 : k < fs.length := by have := HL.out; omega
   have hal := HA.out (by omega)
   subst hal
   have hal2 := HA2.out (by omega)
   subst hal2
   have hi : (k : Int) < (es.length : Int) := by omega
   have hi2 : (k : Int) < (fs.length : Int) := by omega
   go_upto_region 6 with fail
   have RF := hq ((Below.refl wr.heap.size wr).drew)
   have KE := hq (fun u (hu : Below wr.heap.size wr u) => And.intro (RG.out u (Below.and BW.out hu) k hlt) (RG2.out u (Below.and BW.out hu) k hlt2))
   refine wp_region_held_drew (S := fun u => u.rangeAt b (off + k * 15) (rpcC es[k]) ∧ u.rangeAt b2 (off2 + k * 15) (rpcC fs[k])) (by kernel_rfl) (KE.out _ RF.out) (fun hH => ?_)
   refine tk 0 (oi := ⟨_, _, _, _, _, _⟩) (v := ?_) rfl (by kernel_rfl) (fun _ _ _ h => h) (Or.inl ⟨by rfl, ?_⟩) (KE.out _ RF.out) ?_
   rotate_left
   ·(intro u hu; go_simp)
    try with_reducible rfl
   try simp only [Act.put, sA, sB, sC]
   refine tk 1 (oi := ⟨_, _, _, _, _, _⟩) (v := ?_) rfl (by kernel_rfl) (fun _ _ _ h => h) (Or.inl ⟨by rfl, ?_⟩) (KE.out _ RF.out) ?_
   rotate_left
   ·(intro u hu; go_simp)
    try with_reducible rfl
   try simp only [Act.put, sA, sB, sC]
   refine tk 2 (oi := ⟨_, _, _, _, _, _⟩) (v := ?_) rfl (by kernel_rfl) (fun _ _ _ h => h) (Or.inl ⟨by rfl, ?_⟩) (KE.out _ RF.out) ?_
   rotate_left
   ·(intro u hu; go_simp)
    try with_reducible rfl
   try simp only [Act.put, sA, sB, sC]
   refine tk 3 (oi := ⟨_, _, _, _, _, _⟩) (v := .agg (rpcC es[k]).toArray) rfl (by kernel_rfl) (fun _ _ _ h => h) (yieldsIf_load_mid rfl 70 _ rfl b (off + k * 15) rfl (rpcC es[k]) _ (fun u hu => hu.1) Try.underlying70 rfl (show (Try.prog.info? 70).map (·.size) = some 15 by kernel_rfl)) (KE.out _ RF.out) ?_
   try simp only [Act.put, sA, sB, sC]
   refine tk 4 (oi := ⟨_, _, _, _, _, _⟩) (v := ?_) rfl (by kernel_rfl) (fun _ _ _ h => h) (Or.inl ⟨by rfl, ?_⟩) (KE.out _ RF.out) ?_
   rotate_left
   ·(intro u hu; go_simp)
    try with_reducible rfl
   try simp only [Act.put, sA, sB, sC]
   refine tk 5 (oi := ⟨_, _, _, _, _, _⟩) (v := ?_) rfl (by kernel_rfl) (fun _ _ _ h => h) (Or.inl ⟨by rfl, ?_⟩) (KE.out _ RF.out) ?_
   rotate_left
   ·(intro u hu; go_simp)
    try with_reducible rfl
   try simp only [Act.put, sA, sB, sC]
   refine tk 6 (oi := ⟨_, _, _, _, _, _⟩) (v := ?_) rfl (by kernel_rfl) (fun _ _ _ h => h) (Or.inl ⟨by rfl, ?_⟩) (KE.out _ RF.out) ?_
   rotate_left
   ·(intro u hu; go_simp)
    try with_reducible rfl
   try simp only [Act.put, sA, sB, sC]
   refine tk 7 (oi := ⟨_, _, _, _, _, _⟩) (v := .agg (rpcC fs[k]).toArray) rfl (by kernel_rfl) (fun _ _ _ h => h) (yieldsIf_load_mid rfl 70 _ rfl b2 (off2 + k * 15) rfl (rpcC fs[k]) _ (fun u hu => hu.2) Try.underlying70 rfl (show (Try.prog.info? 70).map (·.size) = some 15 by kernel_rfl)) (KE.out _ RF.out) ?_
   try simp only [Act.put, sA, sB, sC]
   refine wp_chain [(8, none), (9, none)] rfl (by kernel_rfl) (fun u hu => KE.out u (Below.and RF.out hu)) ?_ ?_
   ·intro f g hf
    simp at hf
   refine CW.op (o := ⟨_, _, _, _, _, _⟩) rfl (fun u1 l1 K hK => ?_)
   refine call_by 35 [.tmp 20, .tmp 24] #[70, 70] rfl (fun args w => by go_simp) [.agg (rpcC es[k]).toArray, .agg (rpcC fs[k]).toArray] rfl (EQ.out u1 k hlt hlt2 (Below.and (Below.and BW.out RF.out) l1)) ?_
   rintro e x1 ⟨rfl, b1⟩
   refine ⟨_, rfl, hK.out _ _ b1 ?_⟩
   clear hK K
   have BX := hq (Below.and (Below.and BW.out RF.out) (Below.and l1 b1))
   clear l1 b1
   refine CW.op (o := ⟨_, _, _, _, _, _⟩) rfl (fun u2 l2 K hK => ?_)
   have BY := hq (Below.and BX.out l2)
   clear l2
   refine wp_not_by _ rfl true rfl (hK.out _ _ (Ltr.refl _) ?_)
   clear hK K
   refine CW.done (fun u3 l3 => ?_)
   have BZ := hq (Below.and BY.out l3)
   clear l3
   go_wp2
   go_roundw
   case rel => exact ⟨k + 1, by omega, by go_num, BZ.out⟩
   case measure => simp [intOf]; omega
  ·have hi : ¬ (k : Int) < (es.length : Int) := by omega
   go_wp2
   go_ret
   exact ⟨rfl, BW.out⟩

theorem eqCmdS_t (v1 v2 : Value) (es fs : List CmdE) (w : World) (h1 : LsAt cmdC noAt w v1 es) (h2 : LsAt cmdC noAt w v2 fs) (hlk : LsLk Eq es fs) :
  Calls Try.prog 15 #[v1, v2] w fun e w' => e = .returned (.bool true) ∧ Below w.heap.size w w' := by
 obtain ⟨a, b, off, cap, rfl, hcap, hmax, ha, rg⟩ := h1.parts (K := 5) (fun _ => rfl)
 obtain ⟨a2, b2, off2, cap2, rfl, hcap2, hmax2, ha2, rg2⟩ := h2.parts (K := 5) (fun _ => rfl)
 unfold maxLen at hmax hmax2
 have hl := hlk.1
 have EQ := hq (fun i (hi : i < es.length) (hi' : i < fs.length) => (hlk.2 i hi hi' : es[i] = fs[i]))
 have RG := hq rg
 have RG2 := hq rg2
 have HA := hq ha
 have HA2 := hq ha2
 have hne : ((es.length : Int) != (fs.length : Int)) = false := by rw [bne_eq_false_iff_eq]; omega
 have HL := hq hl
 clear h1 h2 hlk rg rg2 ha ha2 hl
 go_enter Try.func15, Try.ntmps15
 go_wp2
 go_loopw [5] (fun i wr => ∃ k : Nat, k ≤ es.length ∧ i = .int .i64 k ∧ Hid (Below w.heap.size w wr)) (fun i _ => es.length - (intOf i).toNat)
 case atStart => exact ⟨0, Nat.zero_le _, rfl, Below.refl _ _⟩
 case round =>
  obtain ⟨k, hk, rfl, BW⟩ := hrel
  by_cases hlt : k < es.length
  ·have hlt2 : k < fs.length := by have := HL.out; omega
   have hal := HA.out (by omega)
   subst hal
   have hal2 := HA2.out (by omega)
   subst hal2
   have hi : (k : Int) < (es.length : Int) := by omega
   have hi2 : (k : Int) < (fs.length : Int) := by omega
   go_upto_region 6 with fail
   have RF := hq ((Below.refl wr.heap.size wr).drew)
   have KE := hq (fun u (hu : Below wr.heap.size wr u) => And.intro (RG.out u (Below.and BW.out hu) k hlt) (RG2.out u (Below.and BW.out hu) k hlt2))
   refine wp_region_held_drew (S := fun u => u.rangeAt b (off + k * 5) (cmdC es[k]) ∧ u.rangeAt b2 (off2 + k * 5) (cmdC fs[k])) (by kernel_rfl) (KE.out _ RF.out) (fun hH => ?_)
   refine tk 0 (oi := ⟨_, _, _, _, _, _⟩) (v := ?_) rfl (by kernel_rfl) (fun _ _ _ h => h) (Or.inl ⟨by rfl, ?_⟩) (KE.out _ RF.out) ?_
   rotate_left
   ·(intro u hu; go_simp)
    try with_reducible rfl
   try simp only [Act.put, sA, sB, sC]
   refine tk 1 (oi := ⟨_, _, _, _, _, _⟩) (v := ?_) rfl (by kernel_rfl) (fun _ _ _ h => h) (Or.inl ⟨by rfl, ?_⟩) (KE.out _ RF.out) ?_
   rotate_left
   ·(intro u hu; go_simp)
    try with_reducible rfl
   try simp only [Act.put, sA, sB, sC]
   refine tk 2 (oi := ⟨_, _, _, _, _, _⟩) (v := ?_) rfl (by kernel_rfl) (fun _ _ _ h => h) (Or.inl ⟨by rfl, ?_⟩) (KE.out _ RF.out) ?_
   rotate_left
   ·(intro u hu; go_simp)
    try with_reducible rfl
   try simp only [Act.put, sA, sB, sC]
   refine tk 3 (oi := ⟨_, _, _, _, _, _⟩) (v := .agg (cmdC es[k]).toArray) rfl (by kernel_rfl) (fun _ _ _ h => h) (yieldsIf_load_mid rfl 75 _ rfl b (off + k * 5) rfl (cmdC es[k]) _ (fun u hu => hu.1) Try.underlying75 rfl (show (Try.prog.info? 75).map (·.size) = some 5 by kernel_rfl)) (KE.out _ RF.out) ?_
   try simp only [Act.put, sA, sB, sC]
   refine tk 4 (oi := ⟨_, _, _, _, _, _⟩) (v := ?_) rfl (by kernel_rfl) (fun _ _ _ h => h) (Or.inl ⟨by rfl, ?_⟩) (KE.out _ RF.out) ?_
   rotate_left
   ·(intro u hu; go_simp)
    try with_reducible rfl
   try simp only [Act.put, sA, sB, sC]
   refine tk 5 (oi := ⟨_, _, _, _, _, _⟩) (v := ?_) rfl (by kernel_rfl) (fun _ _ _ h => h) (Or.inl ⟨by rfl, ?_⟩) (KE.out _ RF.out) ?_
   rotate_left
   ·(intro u hu; go_simp)
    try with_reducible rfl
   try simp only [Act.put, sA, sB, sC]
   refine tk 6 (oi := ⟨_, _, _, _, _, _⟩) (v := ?_) rfl (by kernel_rfl) (fun _ _ _ h => h) (Or.inl ⟨by rfl, ?_⟩) (KE.out _ RF.out) ?_
   rotate_left
   ·(intro u hu; go_simp)
    try with_reducible rfl
   try simp only [Act.put, sA, sB, sC]
   refine tk 7 (oi := ⟨_, _, _, _, _, _⟩) (v := .agg (cmdC fs[k]).toArray) rfl (by kernel_rfl) (fun _ _ _ h => h) (yieldsIf_load_mid rfl 75 _ rfl b2 (off2 + k * 5) rfl (cmdC fs[k]) _ (fun u hu => hu.2) Try.underlying75 rfl (show (Try.prog.info? 75).map (·.size) = some 5 by kernel_rfl)) (KE.out _ RF.out) ?_
   try simp only [Act.put, sA, sB, sC]
   refine wp_chain [(8, none), (9, none)] rfl (by kernel_rfl) (fun u hu => KE.out u (Below.and RF.out hu)) ?_ ?_
   ·intro f g hf
    simp at hf
   refine CW.op (o := ⟨_, _, _, _, _, _⟩) rfl (fun u1 l1 K hK => ?_)
   refine call_by 36 [.tmp 20, .tmp 24] #[75, 75] rfl (fun args w => by go_simp) [.agg (cmdC es[k]).toArray, .agg (cmdC fs[k]).toArray] rfl ((by rw [← EQ.out k hlt hlt2]; exact eqCmd_c es[k] u1)) ?_
   rintro e x1 ⟨rfl, b1⟩
   refine ⟨_, rfl, hK.out _ _ b1 ?_⟩
   clear hK K
   have BX := hq (Below.and (Below.and BW.out RF.out) (Below.and l1 b1))
   clear l1 b1
   refine CW.op (o := ⟨_, _, _, _, _, _⟩) rfl (fun u2 l2 K hK => ?_)
   have BY := hq (Below.and BX.out l2)
   clear l2
   refine wp_not_by _ rfl true rfl (hK.out _ _ (Ltr.refl _) ?_)
   clear hK K
   refine CW.done (fun u3 l3 => ?_)
   have BZ := hq (Below.and BY.out l3)
   clear l3
   go_wp2
   go_roundw
   case rel => exact ⟨k + 1, by omega, by go_num, BZ.out⟩
   case measure => simp [intOf]; omega
  ·have hi : ¬ (k : Int) < (es.length : Int) := by omega
   go_wp2
   go_ret
   exact ⟨rfl, BW.out⟩

theorem eqLeadS_t (v1 v2 : Value) (es fs : List LedE) (w : World) (h1 : LsAt ledC noAt w v1 es) (h2 : LsAt ledC noAt w v2 fs) (hlk : LsLk Eq es fs) :
  Calls Try.prog 17 #[v1, v2] w fun e w' => e = .returned (.bool true) ∧ Below w.heap.size w w' := by
 obtain ⟨a, b, off, cap, rfl, hcap, hmax, ha, rg⟩ := h1.parts (K := 2) (fun _ => rfl)
 obtain ⟨a2, b2, off2, cap2, rfl, hcap2, hmax2, ha2, rg2⟩ := h2.parts (K := 2) (fun _ => rfl)
 unfold maxLen at hmax hmax2
 have hl := hlk.1
 have EQ := hq (fun i (hi : i < es.length) (hi' : i < fs.length) => (hlk.2 i hi hi' : es[i] = fs[i]))
 have RG := hq rg
 have RG2 := hq rg2
 have HA := hq ha
 have HA2 := hq ha2
 have hne : ((es.length : Int) != (fs.length : Int)) = false := by rw [bne_eq_false_iff_eq]; omega
 have HL := hq hl
 clear h1 h2 hlk rg rg2 ha ha2 hl
 go_enter Try.func17, Try.ntmps17
 go_wp2
 go_loopw [5] (fun i wr => ∃ k : Nat, k ≤ es.length ∧ i = .int .i64 k ∧ Hid (Below w.heap.size w wr)) (fun i _ => es.length - (intOf i).toNat)
 case atStart => exact ⟨0, Nat.zero_le _, rfl, Below.refl _ _⟩
 case round =>
  obtain ⟨k, hk, rfl, BW⟩ := hrel
  by_cases hlt : k < es.length
  ·have hlt2 : k < fs.length := by have := HL.out; omega
   have hal := HA.out (by omega)
   subst hal
   have hal2 := HA2.out (by omega)
   subst hal2
   have hi : (k : Int) < (es.length : Int) := by omega
   have hi2 : (k : Int) < (fs.length : Int) := by omega
   go_upto_region 6 with fail
   have RF := hq ((Below.refl wr.heap.size wr).drew)
   have KE := hq (fun u (hu : Below wr.heap.size wr u) => And.intro (RG.out u (Below.and BW.out hu) k hlt) (RG2.out u (Below.and BW.out hu) k hlt2))
   refine wp_region_held_drew (S := fun u => u.rangeAt b (off + k * 2) (ledC es[k]) ∧ u.rangeAt b2 (off2 + k * 2) (ledC fs[k])) (by kernel_rfl) (KE.out _ RF.out) (fun hH => ?_)
   refine tk 0 (oi := ⟨_, _, _, _, _, _⟩) (v := ?_) rfl (by kernel_rfl) (fun _ _ _ h => h) (Or.inl ⟨by rfl, ?_⟩) (KE.out _ RF.out) ?_
   rotate_left
   ·(intro u hu; go_simp)
    try with_reducible rfl
   try simp only [Act.put, sA, sB, sC]
   refine tk 1 (oi := ⟨_, _, _, _, _, _⟩) (v := ?_) rfl (by kernel_rfl) (fun _ _ _ h => h) (Or.inl ⟨by rfl, ?_⟩) (KE.out _ RF.out) ?_
   rotate_left
   ·(intro u hu; go_simp)
    try with_reducible rfl
   try simp only [Act.put, sA, sB, sC]
   refine tk 2 (oi := ⟨_, _, _, _, _, _⟩) (v := ?_) rfl (by kernel_rfl) (fun _ _ _ h => h) (Or.inl ⟨by rfl, ?_⟩) (KE.out _ RF.out) ?_
   rotate_left
   ·(intro u hu; go_simp)
    try with_reducible rfl
   try simp only [Act.put, sA, sB, sC]
   refine tk 3 (oi := ⟨_, _, _, _, _, _⟩) (v := .agg (ledC es[k]).toArray) rfl (by kernel_rfl) (fun _ _ _ h => h) (yieldsIf_load_mid rfl 81 _ rfl b (off + k * 2) rfl (ledC es[k]) _ (fun u hu => hu.1) Try.underlying81 rfl (show (Try.prog.info? 81).map (·.size) = some 2 by kernel_rfl)) (KE.out _ RF.out) ?_
   try simp only [Act.put, sA, sB, sC]
   refine tk 4 (oi := ⟨_, _, _, _, _, _⟩) (v := ?_) rfl (by kernel_rfl) (fun _ _ _ h => h) (Or.inl ⟨by rfl, ?_⟩) (KE.out _ RF.out) ?_
   rotate_left
   ·(intro u hu; go_simp)
    try with_reducible rfl
   try simp only [Act.put, sA, sB, sC]
   refine tk 5 (oi := ⟨_, _, _, _, _, _⟩) (v := ?_) rfl (by kernel_rfl) (fun _ _ _ h => h) (Or.inl ⟨by rfl, ?_⟩) (KE.out _ RF.out) ?_
   rotate_left
   ·(intro u hu; go_simp)
    try with_reducible rfl
   try simp only [Act.put, sA, sB, sC]
   refine tk 6 (oi := ⟨_, _, _, _, _, _⟩) (v := ?_) rfl (by kernel_rfl) (fun _ _ _ h => h) (Or.inl ⟨by rfl, ?_⟩) (KE.out _ RF.out) ?_
   rotate_left
   ·(intro u hu; go_simp)
    try with_reducible rfl
   try simp only [Act.put, sA, sB, sC]
   refine tk 7 (oi := ⟨_, _, _, _, _, _⟩) (v := .agg (ledC fs[k]).toArray) rfl (by kernel_rfl) (fun _ _ _ h => h) (yieldsIf_load_mid rfl 81 _ rfl b2 (off2 + k * 2) rfl (ledC fs[k]) _ (fun u hu => hu.2) Try.underlying81 rfl (show (Try.prog.info? 81).map (·.size) = some 2 by kernel_rfl)) (KE.out _ RF.out) ?_
   try simp only [Act.put, sA, sB, sC]
   refine wp_chain [(8, none), (9, none)] rfl (by kernel_rfl) (fun u hu => KE.out u (Below.and RF.out hu)) ?_ ?_
   ·intro f g hf
    simp at hf
   refine CW.op (o := ⟨_, _, _, _, _, _⟩) rfl (fun u1 l1 K hK => ?_)
   refine call_by 38 [.tmp 20, .tmp 24] #[81, 81] rfl (fun args w => by go_simp) [.agg (ledC es[k]).toArray, .agg (ledC fs[k]).toArray] rfl ((by rw [← EQ.out k hlt hlt2]; exact eqLead_c es[k] u1)) ?_
   rintro e x1 ⟨rfl, b1⟩
   refine ⟨_, rfl, hK.out _ _ b1 ?_⟩
   clear hK K
   have BX := hq (Below.and (Below.and BW.out RF.out) (Below.and l1 b1))
   clear l1 b1
   refine CW.op (o := ⟨_, _, _, _, _, _⟩) rfl (fun u2 l2 K hK => ?_)
   have BY := hq (Below.and BX.out l2)
   clear l2
   refine wp_not_by _ rfl true rfl (hK.out _ _ (Ltr.refl _) ?_)
   clear hK K
   refine CW.done (fun u3 l3 => ?_)
   have BZ := hq (Below.and BY.out l3)
   clear l3
   go_wp2
   go_roundw
   case rel => exact ⟨k + 1, by omega, by go_num, BZ.out⟩
   case measure => simp [intOf]; omega
  ·have hi : ¬ (k : Int) < (es.length : Int) := by omega
   go_wp2
   go_ret
   exact ⟨rfl, BW.out⟩
end
section
open Go.RowKit

structure WrV where
 sz : Int
 nv : Value
 rv : Value
 cv : Value
 av : Value
 lv : Value
abbrev WrV.val (W : WrV) : Value := .agg #[.int .i64 W.sz, W.nv, W.rv, W.cv, W.av, W.lv]
structure Wd where
 ns : List NodE
 rs : List RpcE
 cs : List CmdE
 ds : DL
 ls : List LedE
def WrAt (n : Nat) (w : World) (W : WrV) (D : Wd) : Prop :=
 LsAt nodC (nodAt n) w W.nv D.ns ∧ LsAt rpcC (rpcAt n) w W.rv D.rs ∧ LsAt cmdC noAt w W.cv D.cs ∧ Row w W.av D.ds.length (flatD D.ds) ∧ LsAt ledC noAt w W.lv D.ls
theorem nodAt_b (n : Nat) : ∀ w u e, nodAt n w e → Below w.heap.size w u → nodAt n u e := fun _ _ _ h hb => NodAt.below h hb
theorem rpcAt_b (n : Nat) : ∀ w u e, rpcAt n w e → Below w.heap.size w u → rpcAt n u e := fun _ _ _ h hb => RpcAt.below h hb
theorem noAt_b {ε : Type} : ∀ (w u : World) (e : ε), noAt w e → Below w.heap.size w u → noAt u e := fun _ _ _ _ _ => trivial
structure Wd.small (n : Nat) (D : Wd) : Prop where
 n1 : ∀ e ∈ D.ns, e.2.small n
 r1 : ∀ e ∈ D.rs, e.2.small n
 n : D.ns.length ≤ 1048576
 r : D.rs.length ≤ 1048576
 c : D.cs.length ≤ 1048576
 d : D.ds.length ≤ 1048576
 l : D.ls.length ≤ 1048576
structure Wd.like (D E : Wd) : Prop where
 n : LsLk nodLk D.ns E.ns
 r : LsLk rpcLk D.rs E.rs
 c : D.cs = E.cs
 d : D.ds = E.ds
 l : D.ls = E.ls
theorem LsLk.refl {ε : Type} {lk : ε → ε → Prop} (hr : ∀ e, lk e e) (es : List ε) : LsLk lk es es := ⟨rfl, fun _ _ _ => hr _⟩
theorem LsAt.len {ε : Type} {cs : ε → List Value} {At : World → ε → Prop} {w : World} {v : Value} {es : List ε} (h : LsAt cs At w v es) : ∃ (a : Option Addr) (cap : Nat), v = .slice a es.length cap ∧ es.length ≤ maxLen := by
 obtain ⟨a, _, _, cap, h1, h2, h3, _⟩ := h.1
 exact ⟨a, cap, h1, Nat.le_trans h2 h3⟩

theorem eqWorld_t (n : Nat) (W V : WrV) (D E : Wd) (w : World) (hs : W.sz = V.sz) (hl : D.like E) (h : WrAt n w W D) (h2 : WrAt n w V E) :
  Calls Try.prog 6 #[W.val, V.val] w fun e w' => e = .returned (.bool true) ∧ Below w.heap.size w w' := by
 obtain ⟨sz, nv, rv, cv, av, lv⟩ := W
 obtain ⟨sz2, nv2, rv2, cv2, av2, lv2⟩ := V
 simp only at hs
 subst hs
 obtain ⟨q1, q2, q3, q4, q5⟩ := h
 obtain ⟨k1, k2, k3, k4, k5⟩ := h2
 have S1 := hq (fun u (hu : Below w.heap.size w u) => eqNodeS_t n nv nv2 D.ns E.ns u (q1.below (nodAt_b n) hu) (k1.below (nodAt_b n) hu) hl.n)
 have S2 := hq (fun u (hu : Below w.heap.size w u) => eqRpcS_t n rv rv2 D.rs E.rs u (q2.below (rpcAt_b n) hu) (k2.below (rpcAt_b n) hu) hl.r)
 have S3 := hq (fun u (hu : Below w.heap.size w u) => eqCmdS_t cv cv2 D.cs E.cs u (q3.below noAt_b hu) (k3.below noAt_b hu) (by rw [hl.c]; exact LsLk.refl (fun _ => rfl) _))
 have S4 := hq (fun u (hu : Below w.heap.size w u) => eqDoneS_any av av2 D.ds E.ds u (q4.below hu) (k4.below hu))
 have S5 := hq (fun u (hu : Below w.heap.size w u) => eqLeadS_t lv lv2 D.ls E.ls u (q5.below noAt_b hu) (k5.below noAt_b hu) (by rw [hl.l]; exact LsLk.refl (fun _ => rfl) _))
 have ED : Hid (decide (D.ds = E.ds) = true) := decide_eq_true hl.d
 obtain ⟨na, nc, hn, _⟩ := q1.len
 obtain ⟨na2, nc2, hn2, _⟩ := k1.len
 obtain ⟨ra, rc, hr, _⟩ := q2.len
 obtain ⟨ra2, rc2, hr2, _⟩ := k2.len
 obtain ⟨ca, cc, hc, _⟩ := q3.len
 obtain ⟨ca2, cc2, hc2, _⟩ := k3.len
 obtain ⟨da, dc, hd, _⟩ := q4.len
 obtain ⟨da2, dc2, hd2, _⟩ := k4.len
 obtain ⟨la, lc, hll, _⟩ := q5.len
 obtain ⟨la2, lc2, hll2, _⟩ := k5.len
 simp only at hn hn2 hr hr2 hc hc2 hd hd2 hll hll2
 subst hn hn2 hr hr2 hc hc2 hd hd2 hll hll2
 clear q1 q2 q3 q4 q5 k1 k2 k3 k4 k5 hl
 have N1 := hq ((MBox.start 28 w #[.int .i64 sz, .slice na D.ns.length nc, .slice ra D.rs.length rc, .slice ca D.cs.length cc, .slice da D.ds.length dc, .slice la D.ls.length lc]).step (bel_nw _ (.cells #[.int .i64 sz, .slice na2 E.ns.length nc2, .slice ra2 E.rs.length rc2, .slice ca2 E.cs.length cc2, .slice da2 E.ds.length dc2, .slice la2 E.ls.length lc2] 28)))
 have N2 := hq (MBox.start 28 (w.alloc (.cells #[.int .i64 sz, .slice na D.ns.length nc, .slice ra D.rs.length rc, .slice ca D.cs.length cc, .slice da D.ds.length dc, .slice la D.ls.length lc] 28)) #[.int .i64 sz, .slice na2 E.ns.length nc2, .slice ra2 E.rs.length rc2, .slice ca2 E.cs.length cc2, .slice da2 E.ds.length dc2, .slice la2 E.ls.length lc2])
 have B1 : Hid (Below w.heap.size w ((w.alloc (.cells #[.int .i64 sz, .slice na D.ns.length nc, .slice ra D.rs.length rc, .slice ca D.cs.length cc, .slice da D.ds.length dc, .slice la D.ls.length lc] 28)).alloc (.cells #[.int .i64 sz, .slice na2 E.ns.length nc2, .slice ra2 E.rs.length rc2, .slice ca2 E.cs.length cc2, .slice da2 E.ds.length dc2, .slice la2 E.ls.length lc2] 28))) := Below.and (bel_nw _ _) (bel_nw _ _)
 have c1 := N1.out.cells
 have c2 := N2.out.cells
 simp only [World.size_alloc] at c2 N2
 show Calls Try.prog 6 #[.agg #[.int .i64 sz, .slice na D.ns.length nc, .slice ra D.rs.length rc, .slice ca D.cs.length cc, .slice da D.ds.length dc, .slice la D.ls.length lc], .agg #[.int .i64 sz, .slice na2 E.ns.length nc2, .slice ra2 E.rs.length rc2, .slice ca2 E.cs.length cc2, .slice da2 E.ds.length dc2, .slice la2 E.ls.length lc2]] w _
 go_enter Try.func6, Try.ntmps6
 go_wp2_with fail
 generalize ((w.alloc (.cells #[.int .i64 sz, .slice na D.ns.length nc, .slice ra D.rs.length rc, .slice ca D.cs.length cc, .slice da D.ds.length dc, .slice la D.ls.length lc] 28)).alloc (.cells #[.int .i64 sz, .slice na2 E.ns.length nc2, .slice ra2 E.rs.length rc2, .slice ca2 E.cs.length cc2, .slice da2 E.ds.length dc2, .slice la2 E.ls.length lc2] 28)) = W at *
 refine (S1.out _ B1.out).mono ?_
 rintro e w1 ⟨rfl, b1⟩
 replace B1 := hq (Below.and B1.out b1)
 replace N1 := hq (N1.out.step b1)
 replace N2 := hq (N2.out.step b1)
 clear b1 c1 c2
 have c1 := N1.out.cells
 have c2 := N2.out.cells
 go_wp2_with fail
 refine (S2.out _ B1.out).mono ?_
 rintro e w2 ⟨rfl, b1⟩
 replace B1 := hq (Below.and B1.out b1)
 replace N1 := hq (N1.out.step b1)
 replace N2 := hq (N2.out.step b1)
 clear b1 c1 c2
 have c1 := N1.out.cells
 have c2 := N2.out.cells
 go_wp2_with fail
 refine (S3.out _ B1.out).mono ?_
 rintro e w3 ⟨rfl, b1⟩
 replace B1 := hq (Below.and B1.out b1)
 replace N1 := hq (N1.out.step b1)
 replace N2 := hq (N2.out.step b1)
 clear b1 c1 c2
 have c1 := N1.out.cells
 have c2 := N2.out.cells
 go_wp2_with fail
 refine (S4.out _ B1.out).mono ?_
 rintro e w4 ⟨rfl, b1⟩
 rw [ED.out]
 replace B1 := hq (Below.and B1.out b1)
 replace N1 := hq (N1.out.step b1)
 replace N2 := hq (N2.out.step b1)
 clear b1 c1 c2
 have c1 := N1.out.cells
 have c2 := N2.out.cells
 go_wp2_with fail
 refine (S5.out _ B1.out).mono ?_
 rintro e w5 ⟨rfl, b1⟩
 replace B1 := hq (Below.and B1.out b1)
 replace N1 := hq (N1.out.step b1)
 replace N2 := hq (N2.out.step b1)
 clear b1 c1 c2
 go_wp2
 go_ret
 exact ⟨rfl, B1.out⟩
end
end Go.Proofs.Ytdcladffnjikkaa
