/-
  A call in a region by the callee's contract, without a walk.
  Lists of structs: compared.
-/
import Derived.Test.YthfmifdpldmbaaaOfFirst1
import Derived.WalkKit
import Derived.Test.YthfmifdpldmbaaaOfFirst9
import Derived.Test.YthfmifdpldmbaaaOfFirst10
import Derived.Test.YthfmifdpldmbaaaOfFirst11
import Derived.Test.YthfmifdpldmbaaaOfFirst5
namespace Go.Proofs.Ythfmifdpldmbaaa
set_option maxRecDepth 100000
set_option maxHeartbeats 8000000
section
open Go.RowKit

theorem call_by {P : Program} {o : Oper} {a : Act} {K : Act → World → Prop} {Q : Exit → Act → World → Prop} {w : World} {R : Ending → World → Prop} (f : FuncId) (xs : List Operand) (ats : Array TypeId)
  (ho : o.op = .call { callee := .value (.func f), args := xs.toArray, argTypes := ats }) (hrun : ∀ args w, (callFunc f args).run P w = .ok (.enter f args) w) (args : List Value) (he : xs.map a.eval = args)
  (h : Calls P f args.toArray w R) (hk : ∀ e w', R e w' → ∃ v, e = .returned v ∧ K (a.put o.dst v) w') : o.wp P a w K Q := by
 have ef : a.eval (.func f) = .func (.func f) #[] #[] := rfl
 have hx : execOp a.eval o = callFunc f args.toArray := by
  unfold execOp
  simp [ho, resolve, Deferred.ofValue, invoke, ef, he]
 unfold Oper.wp
 rw [hx, hrun, Oper.upon_enter]
 refine Calls.mono h ?_
 intro e w' hr
 obtain ⟨v, rfl, hk⟩ := hk e w' hr
 exact hk
end
section
open Go.RowKit

theorem eqNodeS_t (n : Nat) (v1 v2 : Value) (es fs : List NodE) (w : World) (h1 : LsAt nodC (nodAt n) w v1 es) (h2 : LsAt nodC (nodAt n) w v2 fs) (hlk : LsLk nodLk es fs) :
  Calls Try.prog 22 #[v1, v2] w fun e w' => e = .returned (.bool true) ∧ Below w.heap.size w w' := by
 obtain ⟨a, b, off, cap, rfl, hcap, hmax, ha, rg⟩ := h1.parts (K := 23) (fun _ => rfl)
 obtain ⟨a2, b2, off2, cap2, rfl, hcap2, hmax2, ha2, rg2⟩ := h2.parts (K := 23) (fun _ => rfl)
 unfold maxLen at hmax hmax2
 have hl := hlk.1
 have EQ := hq (fun u i (hi : i < es.length) (hi' : i < fs.length) (hu : Below w.heap.size w u) => by
  have h3 := h2.2 _ (List.getElem_mem hi')
  have hk := hlk.2 i hi hi'
  unfold nodLk at hk
  unfold nodAt at h3
  rw [← hk.2] at h3
  exact eqNode_any n es[i].1 fs[i].1 es[i].2 u hk.1 ((h1.2 _ (List.getElem_mem hi)).below hu) (h3.below hu))
 have RG := hq rg
 have RG2 := hq rg2
 have HA := hq ha
 have HA2 := hq ha2
 have hne : ((es.length : Int) != (fs.length : Int)) = false := by rw [bne_eq_false_iff_eq]; omega
 have HL := hq hl
 clear h1 h2 hlk rg rg2 ha ha2 hl
 go_enter Try.func22, Try.ntmps22
 go_wp2
 go_loopw [5] (fun i wr => ∃ k : Nat, k ≤ es.length ∧ i = .int .i64 k ∧ Hid (Below w.heap.size w wr)) (fun i _ => es.length - (intOf i).toNat)
 case atStart => exact ⟨0, Nat.zero_le _, rfl, Below.refl _ _⟩
 case round =>
  obtain ⟨k, hk, rfl, BW⟩ := hrel
  by_cases hlt : k < es.length
  ·have hlt2 : k < fs.length := by have := HL.out; omega
   have hal := HA.out (by omega)
   subst hal
   have hal2 := HA2.out (by omega)
   subst hal2
   have hi : (k : Int) < (es.length : Int) := by omega
   have hi2 : (k : Int) < (fs.length : Int) := by omega
   go_upto_region 6 with fail
   have RF := hq ((Below.refl wr.heap.size wr).drew)
   have KE := hq (fun u (hu : Below wr.heap.size wr u) => And.intro (RG.out u (Below.and BW.out hu) k hlt) (RG2.out u (Below.and BW.out hu) k hlt2))
   refine wp_region_held_drew (S := fun u => u.rangeAt b (off + k * 23) (nodC es[k]) ∧ u.rangeAt b2 (off2 + k * 23) (nodC fs[k])) (by kernel_rfl) (KE.out _ RF.out) (fun hH => ?_)
   refine tk 0 (oi := ⟨_, _, _, _, _, _⟩) (v := ?_) rfl (by kernel_rfl) (fun _ _ _ h => h) (Or.inl ⟨by rfl, ?_⟩) (KE.out _ RF.out) ?_
   rotate_left
   ·(intro u hu; go_simp)
    try with_reducible rfl
   try simp only [Act.put, sA, sB, sC]
   refine tk 1 (oi := ⟨_, _, _, _, _, _⟩) (v := ?_) rfl (by kernel_rfl) (fun _ _ _ h => h) (Or.inl ⟨by rfl, ?_⟩) (KE.out _ RF.out) ?_
   rotate_left
   ·(intro u hu; go_simp)
    try with_reducible rfl
   try simp only [Act.put, sA, sB, sC]
   refine tk 2 (oi := ⟨_, _, _, _, _, _⟩) (v := ?_) rfl (by kernel_rfl) (fun _ _ _ h => h) (Or.inl ⟨by rfl, ?_⟩) (KE.out _ RF.out) ?_
   rotate_left
   ·(intro u hu; go_simp)
    try with_reducible rfl
   try simp only [Act.put, sA, sB, sC]
   refine tk 3 (oi := ⟨_, _, _, _, _, _⟩) (v := .agg (nodC es[k]).toArray) rfl (by kernel_rfl) (fun _ _ _ h => h) (yieldsIf_load_mid rfl 94 _ rfl b (off + k * 23) rfl (nodC es[k]) _ (fun u hu => hu.1) Try.underlying94 rfl (show (Try.prog.info? 94).map (·.size) = some 23 by kernel_rfl)) (KE.out _ RF.out) ?_
   try simp only [Act.put, sA, sB, sC]
   refine tk 4 (oi := ⟨_, _, _, _, _, _⟩) (v := ?_) rfl (by kernel_rfl) (fun _ _ _ h => h) (Or.inl ⟨by rfl, ?_⟩) (KE.out _ RF.out) ?_
   rotate_left
   ·(intro u hu; go_simp)
    try with_reducible rfl
   try simp only [Act.put, sA, sB, sC]
   refine tk 5 (oi := ⟨_, _, _, _, _, _⟩) (v := ?_) rfl (by kernel_rfl) (fun _ _ _ h => h) (Or.inl ⟨by rfl, ?_⟩) (KE.out _ RF.out) ?_
   rotate_left
   ·(intro u hu; go_simp)
    try with_reducible rfl
   try simp only [Act.put, sA, sB, sC]
   refine tk 6 (oi := ⟨_, _, _, _, _, _⟩) (v := ?_) rfl (by kernel_rfl) (fun _ _ _ h => h) (Or.inl ⟨by rfl, ?_⟩) (KE.out _ RF.out) ?_
   rotate_left
   ·(intro u hu; go_simp)
    try with_reducible rfl
   try simp only [Act.put, sA, sB, sC]
   refine tk 7 (oi := ⟨_, _, _, _, _, _⟩) (v := .agg (nodC fs[k]).toArray) rfl (by kernel_rfl) (fun _ _ _ h => h) (yieldsIf_load_mid rfl 94 _ rfl b2 (off2 + k * 23) rfl (nodC fs[k]) _ (fun u hu => hu.2) Try.underlying94 rfl (show (Try.prog.info? 94).map (·.size) = some 23 by kernel_rfl)) (KE.out _ RF.out) ?_
   try simp only [Act.put, sA, sB, sC]
   refine wp_chain [(8, none), (9, none)] rfl (by kernel_rfl) (fun u hu => KE.out u (Below.and RF.out hu)) ?_ ?_
   ·intro f g hf
    simp at hf
   refine CW.op (o := ⟨_, _, _, _, _, _⟩) rfl (fun u1 l1 K hK => ?_)
   refine call_by 34 [.tmp 20, .tmp 24] #[94, 94] rfl (fun args w => by go_simp) [.agg (nodC es[k]).toArray, .agg (nodC fs[k]).toArray] rfl (EQ.out u1 k hlt hlt2 (Below.and (Below.and BW.out RF.out) l1)) ?_
   rintro e x1 ⟨rfl, b1⟩
   refine ⟨_, rfl, hK.out _ _ b1 ?_⟩
   clear hK K
   have BX := hq (Below.and (Below.and BW.out RF.out) (Below.and l1 b1))
   clear l1 b1
   refine CW.op (o := ⟨_, _, _, _, _, _⟩) rfl (fun u2 l2 K hK => ?_)
   have BY := hq (Below.and BX.out l2)
   clear l2
   refine wp_not_by _ rfl true rfl (hK.out _ _ (Ltr.refl _) ?_)
   clear hK K
   refine CW.done (fun u3 l3 => ?_)
   have BZ := hq (Below.and BY.out l3)
   clear l3
   go_wp2
   go_roundw
   case rel => exact ⟨k + 1, by omega, by go_num, BZ.out⟩
   case measure => simp [intOf]; omega
  ·have hi : ¬ (k : Int) < (es.length : Int) := by omega
   go_wp2
   go_ret
   exact ⟨rfl, BW.out⟩

theorem eqRpcS_t (n : Nat) (v1 v2 : Value) (es fs : List RpcE) (w : World) (h1 : LsAt rpcC (rpcAt n) w v1 es) (h2 : LsAt rpcC (rpcAt n) w v2 fs) (hlk : LsLk rpcLk es fs) :
  Calls Try.prog 23 #[v1, v2] w fun e w' => e = .returned (.bool true) ∧ Below w.heap.size w w' := by
 obtain ⟨a, b, off, cap, rfl, hcap, hmax, ha, rg⟩ := h1.parts (K := 15) (fun _ => rfl)
 obtain ⟨a2, b2, off2, cap2, rfl, hcap2, hmax2, ha2, rg2⟩ := h2.parts (K := 15) (fun _ => rfl)
 unfold maxLen at hmax hmax2
 have hl := hlk.1
 have EQ := hq (fun u i (hi : i < es.length) (hi' : i < fs.length) (hu : Below w.heap.size w u) => by
  have h3 := h2.2 _ (List.getElem_mem hi')
  have hk := hlk.2 i hi hi'
  unfold rpcLk at hk
  unfold rpcAt at h3
  rw [← hk.2] at h3
  exact eqRpc_any n es[i].1 fs[i].1 es[i].2 u hk.1 ((h1.2 _ (List.getElem_mem hi)).below hu) (h3.below hu))
 have RG := hq rg
 have RG2 := hq rg2
 have HA := hq ha
 have HA2 := hq ha2
 have hne : ((es.length : Int) != (fs.length : Int)) = false := by rw [bne_eq_false_iff_eq]; omega
 have HL := hq hl
 clear h1 h2 hlk rg rg2 ha ha2 hl
 go_enter Try.func23, Try.ntmps23
 go_wp2
 go_loopw [5] (fun i wr => ∃ k : Nat, k ≤ es.length ∧ i = .int .i64 k ∧ Hid (Below w.heap.size w wr)) (fun i _ => es.length - (intOf i).toNat)
 case atStart => exact ⟨0, Nat.zero_le _, rfl, Below.refl _ _⟩
 case round =>
  obtain ⟨k, hk, rfl, BW⟩ := hrel
  by_cases hlt : k < es.length
  ·have hlt2 : k < fs.length := by have := HL.out; omega
   have hal := HA.out (by omega)
   subst hal
   have hal2 := HA2.out (by omega)
   subst hal2
   have hi : (k : Int) < (es.length : Int) := by omega
   have hi2 : (k : Int) < (fs.length : Int) := by omega
   go_upto_region 6 with fail
   have RF := hq ((Below.refl wr.heap.size wr).drew)
   have KE := hq (fun u (hu : Below wr.heap.size wr u) => And.intro (RG.out u (Below.and BW.out hu) k hlt) (RG2.out u (Below.and BW.out hu) k hlt2))
   refine wp_region_held_drew (S := fun u => u.rangeAt b (off + k * 15) (rpcC es[k]) ∧ u.rangeAt b2 (off2 + k * 15) (rpcC fs[k])) (by kernel_rfl) (KE.out _ RF.out) (fun hH => ?_)
   refine tk 0 (oi := ⟨_, _, _, _, _, _⟩) (v := ?_) rfl (by kernel_rfl) (fun _ _ _ h => h) (Or.inl ⟨by rfl, ?_⟩) (KE.out _ RF.out) ?_
   rotate_left
   ·(intro u hu; go_simp)
    try with_reducible rfl
   try simp only [Act.put, sA, sB, sC]
   refine tk 1 (oi := ⟨_, _, _, _, _, _⟩) (v := ?_) rfl (by kernel_rfl) (fun _ _ _ h => h) (Or.inl ⟨by rfl, ?_⟩) (KE.out _ RF.out) ?_
   rotate_left
   ·(intro u hu; go_simp)
    try with_reducible rfl
   try simp only [Act.put, sA, sB, sC]
   refine tk 2 (oi := ⟨_, _, _, _, _, _⟩) (v := ?_) rfl (by kernel_rfl) (fun _ _ _ h => h) (Or.inl ⟨by rfl, ?_⟩) (KE.out _ RF.out) ?_
   rotate_left
   ·(intro u hu; go_simp)
    try with_reducible rfl
   try simp only [Act.put, sA, sB, sC]
   refine tk 3 (oi := ⟨_, _, _, _, _, _⟩) (v := .agg (rpcC es[k]).toArray) rfl (by kernel_rfl) (fun _ _ _ h => h) (yieldsIf_load_mid rfl 97 _ rfl b (off + k * 15) rfl (rpcC es[k]) _ (fun u hu => hu.1) Try.underlying97 rfl (show (Try.prog.info? 97).map (·.size) = some 15 by kernel_rfl)) (KE.out _ RF.out) ?_
   try simp only [Act.put, sA, sB, sC]
   refine tk 4 (oi := ⟨_, _, _, _, _, _⟩) (v := ?_) rfl (by kernel_rfl) (fun _ _ _ h => h) (Or.inl ⟨by rfl, ?_⟩) (KE.out _ RF.out) ?_
   rotate_left
   ·(intro u hu; go_simp)
    try with_reducible rfl
   try simp only [Act.put, sA, sB, sC]
   refine tk 5 (oi := ⟨_, _, _, _, _, _⟩) (v := ?_) rfl (by kernel_rfl) (fun _ _ _ h => h) (Or.inl ⟨by rfl, ?_⟩) (KE.out _ RF.out) ?_
   rotate_left
   ·(intro u hu; go_simp)
    try with_reducible rfl
   try simp only [Act.put, sA, sB, sC]
   refine tk 6 (oi := ⟨_, _, _, _, _, _⟩) (v := ?_) rfl (by kernel_rfl) (fun _ _ _ h => h) (Or.inl ⟨by rfl, ?_⟩) (KE.out _ RF.out) ?_
   rotate_left
   ·(intro u hu; go_simp)
    try with_reducible rfl
   try simp only [Act.put, sA, sB, sC]
   refine tk 7 (oi := ⟨_, _, _, _, _, _⟩) (v := .agg (rpcC fs[k]).toArray) rfl (by kernel_rfl) (fun _ _ _ h => h) (yieldsIf_load_mid rfl 97 _ rfl b2 (off2 + k * 15) rfl (rpcC fs[k]) _ (fun u hu => hu.2) Try.underlying97 rfl (show (Try.prog.info? 97).map (·.size) = some 15 by kernel_rfl)) (KE.out _ RF.out) ?_
   try simp only [Act.put, sA, sB, sC]
   refine wp_chain [(8, none), (9, none)] rfl (by kernel_rfl) (fun u hu => KE.out u (Below.and RF.out hu)) ?_ ?_
   ·intro f g hf
    simp at hf
   refine CW.op (o := ⟨_, _, _, _, _, _⟩) rfl (fun u1 l1 K hK => ?_)
   refine call_by 35 [.tmp 20, .tmp 24] #[97, 97] rfl (fun args w => by go_simp) [.agg (rpcC es[k]).toArray, .agg (rpcC fs[k]).toArray] rfl (EQ.out u1 k hlt hlt2 (Below.and (Below.and BW.out RF.out) l1)) ?_
   rintro e x1 ⟨rfl, b1⟩
   refine ⟨_, rfl, hK.out _ _ b1 ?_⟩
   clear hK K
   have BX := hq (Below.and (Below.and BW.out RF.out) (Below.and l1 b1))
   clear l1 b1
   refine CW.op (o := ⟨_, _, _, _, _, _⟩) rfl (fun u2 l2 K hK => ?_)
   have BY := hq (Below.and BX.out l2)
   clear l2
   refine wp_not_by _ rfl true rfl (hK.out _ _ (Ltr.refl _) ?_)
   clear hK K
   refine CW.done (fun u3 l3 => ?_)
   have BZ := hq (Below.and BY.out l3)
   clear l3
   go_wp2
   go_roundw
   case rel => exact ⟨k + 1, by omega, by go_num, BZ.out⟩
   case measure => simp [intOf]; omega
  ·have hi : ¬ (k : Int) < (es.length : Int) := by omega
   go_wp2
   go_ret
   exact ⟨rfl, BW.out⟩

theorem eqCmdS_t (v1 v2 : Value) (es fs : List CmdE) (w : World) (h1 : LsAt cmdC noAt w v1 es) (h2 : LsAt cmdC noAt w v2 fs) (hlk : LsLk Eq es fs) :
  Calls Try.prog 24 #[v1, v2] w fun e w' => e = .returned (.bool true) ∧ Below w.heap.size w w' := by
 obtain ⟨a, b, off, cap, rfl, hcap, hmax, ha, rg⟩ := h1.parts (K := 5) (fun _ => rfl)
 obtain ⟨a2, b2, off2, cap2, rfl, hcap2, hmax2, ha2, rg2⟩ := h2.parts (K := 5) (fun _ => rfl)
 unfold maxLen at hmax hmax2
 have hl := hlk.1
 have EQ := hq (fun i (hi : i < es.length) (hi' : i < fs.length) => (hlk.2 i hi hi' : es[i] = fs[i]))
 have RG := hq rg
 have RG2 := hq rg2
 have HA := hq ha
 have HA2 := hq ha2
 have hne : ((es.length : Int) != (fs.length : Int)) = false := by rw [bne_eq_false_iff_eq]; omega
 have HL := hq hl
 clear h1 h2 hlk rg rg2 ha ha2 hl
 go_enter Try.func24, Try.ntmps24
 go_wp2
 go_loopw [5] (fun i wr => ∃ k : Nat, k ≤ es.length ∧ i = .int .i64 k ∧ Hid (Below w.heap.size w wr)) (fun i _ => es.length - (intOf i).toNat)
 case atStart => exact ⟨0, Nat.zero_le _, rfl, Below.refl _ _⟩
 case round =>
  obtain ⟨k, hk, rfl, BW⟩ := hrel
  by_cases hlt : k < es.length
  ·have hlt2 : k < fs.length := by have := HL.out; omega
   have hal := HA.out (by omega)
   subst hal
   have hal2 := HA2.out (by omega)
   subst hal2
   have hi : (k : Int) < (es.length : Int) := by omega
   have hi2 : (k : Int) < (fs.length : Int) := by omega
   go_upto_region 6 with fail
   have RF := hq ((Below.refl wr.heap.size wr).drew)
   have KE := hq (fun u (hu : Below wr.heap.size wr u) => And.intro (RG.out u (Below.and BW.out hu) k hlt) (RG2.out u (Below.and BW.out hu) k hlt2))
   refine wp_region_held_drew (S := fun u => u.rangeAt b (off + k * 5) (cmdC es[k]) ∧ u.rangeAt b2 (off2 + k * 5) (cmdC fs[k])) (by kernel_rfl) (KE.out _ RF.out) (fun hH => ?_)
   refine tk 0 (oi := ⟨_, _, _, _, _, _⟩) (v := ?_) rfl (by kernel_rfl) (fun _ _ _ h => h) (Or.inl ⟨by rfl, ?_⟩) (KE.out _ RF.out) ?_
   rotate_left
   ·(intro u hu; go_simp)
    try with_reducible rfl
   try simp only [Act.put, sA, sB, sC]
   refine tk 1 (oi := ⟨_, _, _, _, _, _⟩) (v := ?_) rfl (by kernel_rfl) (fun _ _ _ h => h) (Or.inl ⟨by rfl, ?_⟩) (KE.out _ RF.out) ?_
   rotate_left
   ·(intro u hu; go_simp)
    try with_reducible rfl
   try simp only [Act.put, sA, sB, sC]
   refine tk 2 (oi := ⟨_, _, _, _, _, _⟩) (v := ?_) rfl (by kernel_rfl) (fun _ _ _ h => h) (Or.inl ⟨by rfl, ?_⟩) (KE.out _ RF.out) ?_
   rotate_left
   ·(intro u hu; go_simp)
    try with_reducible rfl
   try simp only [Act.put, sA, sB, sC]
   refine tk 3 (oi := ⟨_, _, _, _, _, _⟩) (v := .agg (cmdC es[k]).toArray) rfl (by kernel_rfl) (fun _ _ _ h => h) (yieldsIf_load_mid rfl 49 _ rfl b (off + k * 5) rfl (cmdC es[k]) _ (fun u hu => hu.1) Try.underlying49 rfl (show (Try.prog.info? 49).map (·.size) = some 5 by kernel_rfl)) (KE.out _ RF.out) ?_
   try simp only [Act.put, sA, sB, sC]
   refine tk 4 (oi := ⟨_, _, _, _, _, _⟩) (v := ?_) rfl (by kernel_rfl) (fun _ _ _ h => h) (Or.inl ⟨by rfl, ?_⟩) (KE.out _ RF.out) ?_
   rotate_left
   ·(intro u hu; go_simp)
    try with_reducible rfl
   try simp only [Act.put, sA, sB, sC]
   refine tk 5 (oi := ⟨_, _, _, _, _, _⟩) (v := ?_) rfl (by kernel_rfl) (fun _ _ _ h => h) (Or.inl ⟨by rfl, ?_⟩) (KE.out _ RF.out) ?_
   rotate_left
   ·(intro u hu; go_simp)
    try with_reducible rfl
   try simp only [Act.put, sA, sB, sC]
   refine tk 6 (oi := ⟨_, _, _, _, _, _⟩) (v := ?_) rfl (by kernel_rfl) (fun _ _ _ h => h) (Or.inl ⟨by rfl, ?_⟩) (KE.out _ RF.out) ?_
   rotate_left
   ·(intro u hu; go_simp)
    try with_reducible rfl
   try simp only [Act.put, sA, sB, sC]
   refine tk 7 (oi := ⟨_, _, _, _, _, _⟩) (v := .agg (cmdC fs[k]).toArray) rfl (by kernel_rfl) (fun _ _ _ h => h) (yieldsIf_load_mid rfl 49 _ rfl b2 (off2 + k * 5) rfl (cmdC fs[k]) _ (fun u hu => hu.2) Try.underlying49 rfl (show (Try.prog.info? 49).map (·.size) = some 5 by kernel_rfl)) (KE.out _ RF.out) ?_
   try simp only [Act.put, sA, sB, sC]
   refine wp_chain [(8, none), (9, none)] rfl (by kernel_rfl) (fun u hu => KE.out u (Below.and RF.out hu)) ?_ ?_
   ·intro f g hf
    simp at hf
   refine CW.op (o := ⟨_, _, _, _, _, _⟩) rfl (fun u1 l1 K hK => ?_)
   refine call_by 36 [.tmp 20, .tmp 24] #[49, 49] rfl (fun args w => by go_simp) [.agg (cmdC es[k]).toArray, .agg (cmdC fs[k]).toArray] rfl ((by rw [← EQ.out k hlt hlt2]; exact eqCmd_c es[k] u1)) ?_
   rintro e x1 ⟨rfl, b1⟩
   refine ⟨_, rfl, hK.out _ _ b1 ?_⟩
   clear hK K
   have BX := hq (Below.and (Below.and BW.out RF.out) (Below.and l1 b1))
   clear l1 b1
   refine CW.op (o := ⟨_, _, _, _, _, _⟩) rfl (fun u2 l2 K hK => ?_)
   have BY := hq (Below.and BX.out l2)
   clear l2
   refine wp_not_by _ rfl true rfl (hK.out _ _ (Ltr.refl _) ?_)
   clear hK K
   refine CW.done (fun u3 l3 => ?_)
   have BZ := hq (Below.and BY.out l3)
   clear l3
   go_wp2
   go_roundw
   case rel => exact ⟨k + 1, by omega, by go_num, BZ.out⟩
   case measure => simp [intOf]; omega
  ·have hi : ¬ (k : Int) < (es.length : Int) := by omega
   go_wp2
   go_ret
   exact ⟨rfl, BW.out⟩

theorem eqLeadS_t (v1 v2 : Value) (es fs : List LedE) (w : World) (h1 : LsAt ledC noAt w v1 es) (h2 : LsAt ledC noAt w v2 fs) (hlk : LsLk Eq es fs) :
  Calls Try.prog 26 #[v1, v2] w fun e w' => e = .returned (.bool true) ∧ Below w.heap.size w w' := by
 obtain ⟨a, b, off, cap, rfl, hcap, hmax, ha, rg⟩ := h1.parts (K := 2) (fun _ => rfl)
 obtain ⟨a2, b2, off2, cap2, rfl, hcap2, hmax2, ha2, rg2⟩ := h2.parts (K := 2) (fun _ => rfl)
 unfold maxLen at hmax hmax2
 have hl := hlk.1
 have EQ := hq (fun i (hi : i < es.length) (hi' : i < fs.length) => (hlk.2 i hi hi' : es[i] = fs[i]))
 have RG := hq rg
 have RG2 := hq rg2
 have HA := hq ha
 have HA2 := hq ha2
 have hne : ((es.length : Int) != (fs.length : Int)) = false := by rw [bne_eq_false_iff_eq]; omega
 have HL := hq hl
 clear h1 h2 hlk rg rg2 ha ha2 hl
 go_enter Try.func26, Try.ntmps26
 go_wp2
 go_loopw [5] (fun i wr => ∃ k : Nat, k ≤ es.length ∧ i = .int .i64 k ∧ Hid (Below w.heap.size w wr)) (fun i _ => es.length - (intOf i).toNat)
 case atStart => exact ⟨0, Nat.zero_le _, rfl, Below.refl _ _⟩
 case round =>
  obtain ⟨k, hk, rfl, BW⟩ := hrel
  by_cases hlt : k < es.length
  ·have hlt2 : k < fs.length := by have := HL.out; omega
   have hal := HA.out (by omega)
   subst hal
   have hal2 := HA2.out (by omega)
   subst hal2
   have hi : (k : Int) < (es.length : Int) := by omega
   have hi2 : (k : Int) < (fs.length : Int) := by omega
   go_upto_region 6 with fail
   have RF := hq ((Below.refl wr.heap.size wr).drew)
   have KE := hq (fun u (hu : Below wr.heap.size wr u) => And.intro (RG.out u (Below.and BW.out hu) k hlt) (RG2.out u (Below.and BW.out hu) k hlt2))
   refine wp_region_held_drew (S := fun u => u.rangeAt b (off + k * 2) (ledC es[k]) ∧ u.rangeAt b2 (off2 + k * 2) (ledC fs[k])) (by kernel_rfl) (KE.out _ RF.out) (fun hH => ?_)
   refine tk 0 (oi := ⟨_, _, _, _, _, _⟩) (v := ?_) rfl (by kernel_rfl) (fun _ _ _ h => h) (Or.inl ⟨by rfl, ?_⟩) (KE.out _ RF.out) ?_
   rotate_left
   ·(intro u hu; go_simp)
    try with_reducible rfl
   try simp only [Act.put, sA, sB, sC]
   refine tk 1 (oi := ⟨_, _, _, _, _, _⟩) (v := ?_) rfl (by kernel_rfl) (fun _ _ _ h => h) (Or.inl ⟨by rfl, ?_⟩) (KE.out _ RF.out) ?_
   rotate_left
   ·(intro u hu; go_simp)
    try with_reducible rfl
   try simp only [Act.put, sA, sB, sC]
   refine tk 2 (oi := ⟨_, _, _, _, _, _⟩) (v := ?_) rfl (by kernel_rfl) (fun _ _ _ h => h) (Or.inl ⟨by rfl, ?_⟩) (KE.out _ RF.out) ?_
   rotate_left
   ·(intro u hu; go_simp)
    try with_reducible rfl
   try simp only [Act.put, sA, sB, sC]
   refine tk 3 (oi := ⟨_, _, _, _, _, _⟩) (v := .agg (ledC es[k]).toArray) rfl (by kernel_rfl) (fun _ _ _ h => h) (yieldsIf_load_mid rfl 108 _ rfl b (off + k * 2) rfl (ledC es[k]) _ (fun u hu => hu.1) Try.underlying108 rfl (show (Try.prog.info? 108).map (·.size) = some 2 by kernel_rfl)) (KE.out _ RF.out) ?_
   try simp only [Act.put, sA, sB, sC]
   refine tk 4 (oi := ⟨_, _, _, _, _, _⟩) (v := ?_) rfl (by kernel_rfl) (fun _ _ _ h => h) (Or.inl ⟨by rfl, ?_⟩) (KE.out _ RF.out) ?_
   rotate_left
   ·(intro u hu; go_simp)
    try with_reducible rfl
   try simp only [Act.put, sA, sB, sC]
   refine tk 5 (oi := ⟨_, _, _, _, _, _⟩) (v := ?_) rfl (by kernel_rfl) (fun _ _ _ h => h) (Or.inl ⟨by rfl, ?_⟩) (KE.out _ RF.out) ?_
   rotate_left
   ·(intro u hu; go_simp)
    try with_reducible rfl
   try simp only [Act.put, sA, sB, sC]
   refine tk 6 (oi := ⟨_, _, _, _, _, _⟩) (v := ?_) rfl (by kernel_rfl) (fun _ _ _ h => h) (Or.inl ⟨by rfl, ?_⟩) (KE.out _ RF.out) ?_
   rotate_left
   ·(intro u hu; go_simp)
    try with_reducible rfl
   try simp only [Act.put, sA, sB, sC]
   refine tk 7 (oi := ⟨_, _, _, _, _, _⟩) (v := .agg (ledC fs[k]).toArray) rfl (by kernel_rfl) (fun _ _ _ h => h) (yieldsIf_load_mid rfl 108 _ rfl b2 (off2 + k * 2) rfl (ledC fs[k]) _ (fun u hu => hu.2) Try.underlying108 rfl (show (Try.prog.info? 108).map (·.size) = some 2 by kernel_rfl)) (KE.out _ RF.out) ?_
   try simp only [Act.put, sA, sB, sC]
   refine wp_chain [(8, none), (9, none)] rfl (by kernel_rfl) (fun u hu => KE.out u (Below.and RF.out hu)) ?_ ?_
   ·intro f g hf
    simp at hf
   refine CW.op (o := ⟨_, _, _, _, _, _⟩) rfl (fun u1 l1 K hK => ?_)
   refine call_by 38 [.tmp 20, .tmp 24] #[108, 108] rfl (fun args w => by go_simp) [.agg (ledC es[k]).toArray, .agg (ledC fs[k]).toArray] rfl ((by rw [← EQ.out k hlt hlt2]; exact eqLead_c es[k] u1)) ?_
   rintro e x1 ⟨rfl, b1⟩
   refine ⟨_, rfl, hK.out _ _ b1 ?_⟩
   clear hK K
   have BX := hq (Below.and (Below.and BW.out RF.out) (Below.and l1 b1))
   clear l1 b1
   refine CW.op (o := ⟨_, _, _, _, _, _⟩) rfl (fun u2 l2 K hK => ?_)
   have BY := hq (Below.and BX.out l2)
   clear l2
   refine wp_not_by _ rfl true rfl (hK.out _ _ (Ltr.refl _) ?_)
   clear hK K
   refine CW.done (fun u3 l3 => ?_)
   have BZ := hq (Below.and BY.out l3)
   clear l3
   go_wp2
   go_roundw
   case rel => exact ⟨k + 1, by omega, by go_num, BZ.out⟩
   case measure => simp [intOf]; omega
  ·have hi : ¬ (k : Int) < (es.length : Int) := by omega
   go_wp2
   go_ret
   exact ⟨rfl, BW.out⟩
end
end Go.Proofs.Ythfmifdpldmbaaa
