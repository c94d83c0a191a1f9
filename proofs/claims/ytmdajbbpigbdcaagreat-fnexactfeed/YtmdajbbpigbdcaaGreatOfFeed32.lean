/-
  The program's sentBy: what one node tells another, in memory of its own.
  What Rise makes of a node; a list that is cleared.
  The model's copy of a log.
-/
import Derived.Test.YtmdajbbpigbdcaaGreatOfFeed7
import Derived.Test.YtmdajbbpigbdcaaGreatOfFeed30
import Derived.Test.YtmdajbbpigbdcaaGreatOfFeed31
import Derived.Test.YtmdajbbpigbdcaaGreatOfFeed20
import Derived.Test.YtmdajbbpigbdcaaGreatOfFeed29
import Derived.Deep.RegionHeld3
import Derived.Test.YtmdajbbpigbdcaaGreatOfFeed22
import Derived.Test.YtmdajbbpigbdcaaGreatOfFeed27
import Derived.Lib.SliceRun
import Derived.Test.YtmdajbbpigbdcaaGreatOfFeed25
namespace Go.Proofs.YtmdajbbpigbdcaaGreat
set_option maxRecDepth 100000
set_option maxHeartbeats 8000000
section
open Go.RowKit

theorem call_byv {P : Program} {o : Oper} {a : Act} {K : Act → World → Prop} {Q : Exit → Act → World → Prop} {w : World} {R : Ending → World → Prop} (f : FuncId) (t : Tmp) (xs : List Operand) (ats : Array TypeId)
  (ho : o.op = .call { callee := .value (.tmp t), args := xs.toArray, argTypes := ats }) (hf : a.eval (.tmp t) = .func (.func f) #[] #[]) (hrun : ∀ args w, (callFunc f args).run P w = .ok (.enter f args) w) (args : List Value) (he : xs.map a.eval = args)
  (h : Calls P f args.toArray w R) (hk : ∀ e w', R e w' → ∃ v, e = .returned v ∧ K (a.put o.dst v) w') : o.wp P a w K Q := by
 have hx : execOp a.eval o = callFunc f args.toArray := by
  unfold execOp
  simp [ho, resolve, Deferred.ofValue, invoke, hf, he]
 unfold Oper.wp
 rw [hx, hrun, Oper.upon_enter]
 refine Calls.mono h ?_
 intro e w' hr
 obtain ⟨v, rfl, hk⟩ := hk e w' hr
 exact hk
theorem run_kinds (args : Array Value) (w : World) : (callFunc 81 args).run Tryz.prog w = .ok (.enter 81 args) w := by go_simp
theorem run_saySnap (args : Array Value) (w : World) : (callFunc 119 args).run Tryz.prog w = .ok (.enter 119 args) w := by go_simp
theorem run_sayEntries (args : Array Value) (w : World) : (callFunc 118 args).run Tryz.prog w = .ok (.enter 118 args) w := by go_simp
theorem fld5 (w : World) : (Instr.field 116 (.agg #[.func (.func 119) #[] #[], .func (.func 74) #[] #[]]) 0).run Tryz.prog w = .ok (.func (.func 119) #[] #[]) w := by kernel_rfl
theorem wp_look5 {op : Oper} {a : Act} {w : World} {K : Act → World → Prop} {Q : Exit → Act → World → Prop} (x y : Operand) (ho : op.op = .lookup 117 x y false)
  (b : Nat) (hx : a.eval x = .map (some b)) (hy : a.eval y = .int .i64 5) (hb : w.heap[b]? = some (.map kinds5 5))
  (h : K (a.put op.dst (.agg #[.func (.func 119) #[] #[], .func (.func 74) #[] #[]])) w) : op.wp Tryz.prog a w K Q := by
 have look : ∀ r, Instr.findNow (.int .i64) (.int .i64 5) kinds5.toList 0 = some r → (Instr.findKey 3 (.int .i64 5) kinds5.toList).run Tryz.prog w = .ok r w := fun r h => findKey_int 5 _ r h w
 have e : (Instr.lookup 117 (.map (some b)) (.int .i64 5) false).run Tryz.prog w = .ok (.agg #[.func (.func 119) #[] #[], .func (.func 74) #[] #[]]) w := by
  simp [Instr.lookup, run_underlying Tryz.uRK, MapKept.run_getObj_map hb, checkKey_int, look _ rfl]
 unfold Oper.wp execOp
 simp only [ho, hx, hy, Sem.run_bind, e, Result.andThen_ok, Sem.run_pure]
 exact h
theorem fld3 (w : World) : (Instr.field 116 (.agg #[.func (.func 118) #[] #[], .func (.func 116) #[] #[]]) 0).run Tryz.prog w = .ok (.func (.func 118) #[] #[]) w := by kernel_rfl
theorem wp_look3 {op : Oper} {a : Act} {w : World} {K : Act → World → Prop} {Q : Exit → Act → World → Prop} (x y : Operand) (ho : op.op = .lookup 117 x y false)
  (b : Nat) (hx : a.eval x = .map (some b)) (hy : a.eval y = .int .i64 3) (hb : w.heap[b]? = some (.map kinds5 5))
  (h : K (a.put op.dst (.agg #[.func (.func 118) #[] #[], .func (.func 116) #[] #[]])) w) : op.wp Tryz.prog a w K Q := by
 have look : ∀ r, Instr.findNow (.int .i64) (.int .i64 3) kinds5.toList 0 = some r → (Instr.findKey 3 (.int .i64 3) kinds5.toList).run Tryz.prog w = .ok r w := fun r h => findKey_int 3 _ r h w
 have e : (Instr.lookup 117 (.map (some b)) (.int .i64 3) false).run Tryz.prog w = .ok (.agg #[.func (.func 118) #[] #[], .func (.func 116) #[] #[]]) w := by
  simp [Instr.lookup, run_underlying Tryz.uRK, MapKept.run_getObj_map hb, checkKey_int, look _ rfl]
 unfold Oper.wp execOp
 simp only [ho, hx, hy, Sem.run_bind, e, Result.andThen_ok, Sem.run_pure]
 exact h

theorem sentSnap_any (n : Nat) (N : NodV) (D : Nd) (ti : Int) (F1 : Nat → Prop) (w : World) (h : NodAt n w N D) (hs : D.small n) (s1 : Src true n w F1 N.s.x D.T1) :
  Calls Tryz.prog 49 #[N.val, .int .i64 ti, .int .i64 5] w fun e w' => ∃ K : RpcV, e = .returned K.val ∧ (rpSn N ti (.slice none 0 0) zM).like K ∧ RpcDh n w' w.heap.size w'.heap.size K ⟨[], D.T1, D.d1⟩ ∧ Below w.heap.size w w' := by
 have SAY : Hid (∀ u b, Below w.heap.size w u → w.heap.size ≤ b → u.heap[b]? = some (.cells #[.int .i64 5, .int .i64 N.id, .int .i64 ti, .int .i64 N.te, .int .i64 0, .int .i64 0, .int .i64 0, .bool false, .slice none 0 0, .bool false, .slice none 0 0, .slice none 0 0, .slice none 0 0, .slice none 0 0, .slice none 0 0] 57 (0, 0)) → Calls Tryz.prog 119 #[.pointer (some ⟨b, 0, none⟩), N.val] u fun e w' => e = .returned (.tuple #[]) ∧ ∃ K : RpcV, (rpSn N ti (.slice none 0 0) zM).like K ∧ w'.heap[b]? = some (.cells (rpcArr K) 57 (0, 0)) ∧ RpcDh n w' u.heap.size w'.heap.size K ⟨[], D.T1, D.d1⟩ ∧ Chg (fun g => g = b) u w') := fun u b hu hb hx => saySnap_any n N D F1 w u b ti h hs s1 hu hb hx
 clear h hs s1
 generalize hLK : (rpSn N ti (.slice none 0 0) zM).like = LK at *
 clear hLK
 generalize hDD : (⟨[], D.T1, D.d1⟩ : Rd) = DD at *
 clear hDD
 obtain ⟨id, nte, vo, lb, lt, lv, ⟨⟨sl, sp, sc, sk, sb⟩, sv⟩, ro, vv, nv, mv, ncm, ⟨⟨ol, op, oc, ok, ob⟩, ov⟩⟩ := N
 replace SAY : Hid (∀ u b, Below w.heap.size w u → w.heap.size ≤ b → u.heap[b]? = some (.cells #[.int .i64 5, .int .i64 id, .int .i64 ti, .int .i64 nte, .int .i64 0, .int .i64 0, .int .i64 0, .bool false, .slice none 0 0, .bool false, .slice none 0 0, .slice none 0 0, .slice none 0 0, .slice none 0 0, .slice none 0 0] 57 (0, 0)) → Calls Tryz.prog 119 #[.pointer (some ⟨b, 0, none⟩), .agg (List.toArray ([.int .i64 id, .int .i64 nte, .int .i64 vo, .int .i64 lb, .int .i64 lt, lv, .bool sl, sp, sc, sk, sb, sv, .int .i64 ro, vv, nv, mv, .int .i64 ncm, .bool ol, op, oc, ok, ob, ov] : List Value))] u fun e w' => e = .returned (.tuple #[]) ∧ ∃ K : RpcV, LK K ∧ w'.heap[b]? = some (.cells (rpcArr K) 57 (0, 0)) ∧ RpcDh n w' u.heap.size w'.heap.size K DD ∧ Chg (fun g => g = b) u w') := SAY
 have HI : Hid ((Tryz.prog.info? 50).map (·.size) = some (List.length ([.int .i64 id, .int .i64 nte, .int .i64 vo, .int .i64 lb, .int .i64 lt, lv, .bool sl, sp, sc, sk, sb, sv, .int .i64 ro, vv, nv, mv, .int .i64 ncm, .bool ol, op, oc, ok, ob, ov] : List Value))) := (show (Tryz.prog.info? 50).map (·.size) = some 23 by kernel_rfl)
 have B1 : Hid (Below w.heap.size w ((w.alloc (.cells #[.int .i64 id, .int .i64 nte, .int .i64 vo, .int .i64 lb, .int .i64 lt, lv, .bool sl, sp, sc, sk, sb, sv, .int .i64 ro, vv, nv, mv, .int .i64 ncm, .bool ol, op, oc, ok, ob, ov] 50)).alloc (.cells #[.int .i64 0, .int .i64 0, .int .i64 0, .int .i64 0, .int .i64 0, .int .i64 0, .int .i64 0, .bool false, .slice none 0 0, .bool false, .slice none 0 0, .slice none 0 0, .slice none 0 0, .slice none 0 0, .slice none 0 0] 57))) := Below.and (bel_nw _ _) (bel_nw _ _)
 have Y1 : Hid (((w.alloc (.cells #[.int .i64 id, .int .i64 nte, .int .i64 vo, .int .i64 lb, .int .i64 lt, lv, .bool sl, sp, sc, sk, sb, sv, .int .i64 ro, vv, nv, mv, .int .i64 ncm, .bool ol, op, oc, ok, ob, ov] 50)).alloc (.cells #[.int .i64 0, .int .i64 0, .int .i64 0, .int .i64 0, .int .i64 0, .int .i64 0, .int .i64 0, .bool false, .slice none 0 0, .bool false, .slice none 0 0, .slice none 0 0, .slice none 0 0, .slice none 0 0, .slice none 0 0] 57)).heap[w.heap.size]? = some (.cells (List.toArray ([.int .i64 id, .int .i64 nte, .int .i64 vo, .int .i64 lb, .int .i64 lt, lv, .bool sl, sp, sc, sk, sb, sv, .int .i64 ro, vv, nv, mv, .int .i64 ncm, .bool ol, op, oc, ok, ob, ov] : List Value)) 50 (0, 0))) := step_at (MBox.start 50 w #[.int .i64 id, .int .i64 nte, .int .i64 vo, .int .i64 lb, .int .i64 lt, lv, .bool sl, sp, sc, sk, sb, sv, .int .i64 ro, vv, nv, mv, .int .i64 ncm, .bool ol, op, oc, ok, ob, ov]) (bel_nw _ _)
 have Y2 : Hid (((w.alloc (.cells #[.int .i64 id, .int .i64 nte, .int .i64 vo, .int .i64 lb, .int .i64 lt, lv, .bool sl, sp, sc, sk, sb, sv, .int .i64 ro, vv, nv, mv, .int .i64 ncm, .bool ol, op, oc, ok, ob, ov] 50)).alloc (.cells #[.int .i64 0, .int .i64 0, .int .i64 0, .int .i64 0, .int .i64 0, .int .i64 0, .int .i64 0, .bool false, .slice none 0 0, .bool false, .slice none 0 0, .slice none 0 0, .slice none 0 0, .slice none 0 0, .slice none 0 0] 57)).heap[w.heap.size + 1]? = some (.cells #[.int .i64 0, .int .i64 0, .int .i64 0, .int .i64 0, .int .i64 0, .int .i64 0, .int .i64 0, .bool false, .slice none 0 0, .bool false, .slice none 0 0, .slice none 0 0, .slice none 0 0, .slice none 0 0, .slice none 0 0] 57 (0, 0))) := by
  have := MBox.start 57 (w.alloc (.cells #[.int .i64 id, .int .i64 nte, .int .i64 vo, .int .i64 lb, .int .i64 lt, lv, .bool sl, sp, sc, sk, sb, sv, .int .i64 ro, vv, nv, mv, .int .i64 ncm, .bool ol, op, oc, ok, ob, ov] 50)) #[.int .i64 0, .int .i64 0, .int .i64 0, .int .i64 0, .int .i64 0, .int .i64 0, .int .i64 0, .bool false, .slice none 0 0, .bool false, .slice none 0 0, .slice none 0 0, .slice none 0 0, .slice none 0 0, .slice none 0 0]
  rw [World.size_alloc] at this
  exact this
 have zw : ((w.alloc (.cells #[.int .i64 id, .int .i64 nte, .int .i64 vo, .int .i64 lb, .int .i64 lt, lv, .bool sl, sp, sc, sk, sb, sv, .int .i64 ro, vv, nv, mv, .int .i64 ncm, .bool ol, op, oc, ok, ob, ov] 50)).alloc (.cells #[.int .i64 0, .int .i64 0, .int .i64 0, .int .i64 0, .int .i64 0, .int .i64 0, .int .i64 0, .bool false, .slice none 0 0, .bool false, .slice none 0 0, .slice none 0 0, .slice none 0 0, .slice none 0 0, .slice none 0 0] 57)).heap.size = w.heap.size + 2 := by simp
 show Calls Tryz.prog 49 #[.agg #[.int .i64 id, .int .i64 nte, .int .i64 vo, .int .i64 lb, .int .i64 lt, lv, .bool sl, sp, sc, sk, sb, sv, .int .i64 ro, vv, nv, mv, .int .i64 ncm, .bool ol, op, oc, ok, ob, ov], .int .i64 ti, .int .i64 5] w _
 go_enter Tryz.func49, Tryz.ntmps49
 go_upto_region 1 with fail
 generalize ((w.alloc (.cells #[.int .i64 id, .int .i64 nte, .int .i64 vo, .int .i64 lb, .int .i64 lt, lv, .bool sl, sp, sc, sk, sb, sv, .int .i64 ro, vv, nv, mv, .int .i64 ncm, .bool ol, op, oc, ok, ob, ov] 50)).alloc (.cells #[.int .i64 0, .int .i64 0, .int .i64 0, .int .i64 0, .int .i64 0, .int .i64 0, .int .i64 0, .bool false, .slice none 0 0, .bool false, .slice none 0 0, .slice none 0 0, .slice none 0 0, .slice none 0 0, .slice none 0 0] 57)) = W at *
 have k0 : W.cell? ⟨w.heap.size, 0, none⟩ = some (.int .i64 id) := cell_of_cells Y1.out
 have k1 : W.cell? ⟨w.heap.size, 1, none⟩ = some (.int .i64 nte) := cell_of_cells Y1.out
 generalize ([.int .i64 id, .int .i64 nte, .int .i64 vo, .int .i64 lb, .int .i64 lt, lv, .bool sl, sp, sc, sk, sb, sv, .int .i64 ro, vv, nv, mv, .int .i64 ncm, .bool ol, op, oc, ok, ob, ov] : List Value) = cs at *
 have zB : w.heap.size + 2 ≤ W.heap.size := by omega
 have na : Below W.heap.size W (W.alloc (.cells #[.int .i64 5, .int .i64 id, .int .i64 ti, .int .i64 nte, .int .i64 0, .int .i64 0, .int .i64 0, .bool false, .slice none 0 0, .bool false, .slice none 0 0, .slice none 0 0, .slice none 0 0, .slice none 0 0, .slice none 0 0] 57)) := bel_nw _ _
 have X : Hid ((W.alloc (.cells #[.int .i64 5, .int .i64 id, .int .i64 ti, .int .i64 nte, .int .i64 0, .int .i64 0, .int .i64 0, .bool false, .slice none 0 0, .bool false, .slice none 0 0, .slice none 0 0, .slice none 0 0, .slice none 0 0, .slice none 0 0] 57)).heap[W.heap.size]? = some (.cells #[.int .i64 5, .int .i64 id, .int .i64 ti, .int .i64 nte, .int .i64 0, .int .i64 0, .int .i64 0, .bool false, .slice none 0 0, .bool false, .slice none 0 0, .slice none 0 0, .slice none 0 0, .slice none 0 0, .slice none 0 0] 57 (0, 0))) := heap_alloc_new W _
 replace Y1 := hid9 (step_at Y1.out na)
 replace Y2 := hid9 (step_at Y2.out na)
 replace B1 := hid9 (Below.and B1.out na)
 have zV := hid9 na.size
 clear na zw
 go_upto_region 2 with fail
 clear k0 k1
 generalize W.alloc (.cells #[.int .i64 5, .int .i64 id, .int .i64 ti, .int .i64 nte, .int .i64 0, .int .i64 0, .int .i64 0, .bool false, .slice none 0 0, .bool false, .slice none 0 0, .slice none 0 0, .slice none 0 0, .slice none 0 0, .slice none 0 0] 57) = V at *
 generalize W.heap.size = b at *
 have KE : Hid (∀ u, Below V.heap.size V u → u.rangeAt w.heap.size 0 cs) := fun u hu => by have := range_of (step_at Y1.out hu); rw [List.toList_toArray] at this; exact this
 have RLL : Hid (Below V.heap.size V V.drew) := (Below.refl _ _).drew
 refine wp_region_held_drew (S := (fun u : World => u.rangeAt w.heap.size 0 cs)) (by kernel_rfl) (KE.out _ RLL.out) (fun hH => ?_)
 refine wpAnyH_take (i := 4) (oi := ⟨_, _, _, _, _, _⟩) (v := .agg cs.toArray) rfl (by kernel_rfl) (by kernel_rfl) (by kernel_rfl) (fun _ _ _ h => h) (yieldsIf_load_mid (by kernel_rfl) 50 _ rfl w.heap.size 0 rfl cs _ (fun _ hu => hu) Tryz.underlying50 rfl HI.out) (by assumption) ?_
 try simp only [Act.put, List.setIfInBounds_toArray, List.set_cons_zero, List.set_cons_succ]
 refine wpAnyH_take (i := 1) (oi := ⟨_, _, _, _, _, _⟩) (v := ?_) rfl (by kernel_rfl) (by kernel_rfl) (by kernel_rfl) (fun _ _ _ h => h) (Or.inl ⟨by rfl, ?_⟩) (by assumption) ?_
 rotate_left
 ·((intro w hSw; (try dsimp only at hSw); go_simp); (try with_reducible rfl))
 try simp only [Act.put, List.setIfInBounds_toArray, List.set_cons_zero, List.set_cons_succ]
 refine wpAnyH_ready (rs := [0]) (by kernel_rfl) (by simp) ?_
 refine AllReadyH.cons (o := ⟨_, _, _, _, _, _⟩) rfl (fun K hK => ?_) AllReadyH.nil
 refine (if_pos (show Region.wanted _ _ = true by kernel_rfl)).mpr ?_
 refine call_by 81 [] #[] rfl run_kinds _ rfl (rpcKinds_any _) ?_
 rintro e u2 ⟨rfl, mb, b3⟩
 have MB := hid9 mb
 replace RLL := hid9 (Below.and RLL.out b3)
 clear b3 mb
 generalize V.drew.heap.size = mp at *
 refine ⟨_, rfl, ?_⟩
 refine hK.out _ _ (KE.out _ RLL.out) (fun hH2 => ?_)
 clear hK K hH
 have hH := hH2
 clear hH2
 try simp only [Act.put, List.setIfInBounds_toArray, List.set_cons_zero, List.set_cons_succ]
 refine wpAnyH_ready (rs := [2]) (by kernel_rfl) (by simp) ?_
 refine AllReadyH.cons (o := ⟨_, _, _, _, _, _⟩) rfl (fun K hK => ?_) AllReadyH.nil
 refine (if_pos (show Region.wanted _ _ = true by kernel_rfl)).mpr ?_
 refine wp_look5 _ _ rfl mp rfl rfl MB.out ?_
 refine hK.out _ _ (KE.out _ RLL.out) (fun hH2 => ?_)
 clear hK K hH MB
 have hH := hH2
 clear hH2
 try simp only [Act.put, List.setIfInBounds_toArray, List.set_cons_zero, List.set_cons_succ]
 refine wpAnyH_take (i := 3) (oi := ⟨_, _, _, _, _, _⟩) (v := .func (.func 119) #[] #[]) rfl (by kernel_rfl) (by kernel_rfl) (by kernel_rfl) (fun _ _ _ h => h) (Or.inl ⟨by rfl, fun w hSw => by go_simp; rw [fld5]; rfl⟩) (by assumption) ?_
 try simp only [Act.put, List.setIfInBounds_toArray, List.set_cons_zero, List.set_cons_succ]
 have SY := hid9 (SAY.out u2 b (Below.and B1.out RLL.out) (by omega) (step_at X.out RLL.out))
 replace Y2 := hid9 (step_at Y2.out RLL.out)
 replace B1 := hid9 (Below.and B1.out RLL.out)
 have zu : Hid (V.heap.size ≤ u2.heap.size) := RLL.out.size
 refine wpAnyH_ready (rs := [5]) (by kernel_rfl) (by simp) ?_
 refine AllReadyH.cons (o := ⟨_, _, _, _, _, _⟩) rfl (fun K hK => ?_) AllReadyH.nil
 refine (if_pos (show Region.wanted _ _ = true by kernel_rfl)).mpr ?_
 refine call_byv 119 18 [.tmp 7, .tmp 19] #[119, 50] rfl rfl run_saySnap _ rfl SY.out ?_
 rintro e V5 ⟨rfl, K5, lk, hx, rd, gc⟩
 refine ⟨_, rfl, ?_⟩
 have RR : Hid (V5.rangeAt w.heap.size 0 cs) := by have := range_of (row_chg (step_at Y1.out RLL.out) gc (fun e => by omega)); rw [List.toList_toArray] at this; exact this
 refine hK.out _ _ RR.out (fun hH2 => ?_)
 clear hK K hH RR SY KE
 try simp only [Act.put, List.setIfInBounds_toArray, List.set_cons_zero, List.set_cons_succ]
 refine wpAnyH_done (by kernel_rfl) ?_ _
 clear hH2
 replace Y2 := hid9 (row_chg Y2.out gc (fun e => by omega))
 replace B1 := hid9 (B1.out.trans (gc.below (fun g _ hg => by omega) B1.out.size))
 obtain ⟨ks, ksv, ksl, kso⟩ := rd.at.cells
 have X5 : Hid (V5.heap[b]? = some (.cells ks.toArray 57 (0, 0))) := by
  have e2 := ksv
  simp only [RpcV.val] at e2
  injection e2 with e3
  rw [← e3]
  exact hx
 have LKK := hid9 lk
 have RD := hid9 rd
 have zf : Hid (w.heap.size + 2 ≤ u2.heap.size) := by have := zu.out; have := zV.out; show _ ≤ _; omega
 clear hx gc lk rd RLL X Y1 zu zV SAY HI
 have RG : Hid (V5.rangeAt b 0 ks) := by have := range_of X5.out; rw [List.toList_toArray] at this; exact this
 have TH2 : Hid (V5.there (w.heap.size + 1) 0 ks.toArray.size) := there_of Y2.out (show 15 = ks.toArray.size by rw [List.size_toArray, ksl])
 have GC : Hid (Chg (fun g => g = (w.heap.size + 1)) V5 (V5.setCells (w.heap.size + 1) 0 ks)) := Chg.setCells (F := fun g => g = (w.heap.size + 1)) (g := (w.heap.size + 1)) (fun _ => rfl) ks 0 V5 (Chg.refl _ _)
 have XF : Hid ((V5.setCells (w.heap.size + 1) 0 ks).heap[(w.heap.size + 1)]? = some (.cells ks.toArray 57 (0, 0))) := setAll_at Y2.out ks (by rw [ksl]; rfl)
 have HM1 : Hid ((Tryz.prog.info? 57).map (·.size) = some ks.length) := by show _ = _; rw [ksl]; kernel_rfl
 have HM2 : Hid ((Tryz.prog.info? 57).map (·.size) = some ks.toArray.size) := by show _ = _; rw [List.size_toArray]; exact HM1.out
 have FIN : Hid (∃ K : RpcV, Value.agg ks.toArray = K.val ∧ LK K ∧ RpcDh n (V5.setCells (w.heap.size + 1) 0 ks) w.heap.size (V5.setCells (w.heap.size + 1) 0 ks).heap.size K DD ∧ Below w.heap.size w (V5.setCells (w.heap.size + 1) 0 ks)) := ⟨K5, ksv.symm, LKK.out, (RD.out.chg GC.out (fun g a _ e => by have := zf.out; omega)).up (by have := zf.out; omega) GC.out.size (Nat.le_refl _), B1.out.trans (GC.out.below (fun g _ hg => by omega) B1.out.size)⟩
 clear GC RD LKK B1 Y2 X5
 go_wp2_with (first | (refine wpList_load_mid rfl 57 _ rfl b 0 rfl ks _ RG.out Tryz.underlying57 rfl HM1.out ?_) | (refine wpList_store_mid rfl 57 _ _ rfl (w.heap.size + 1) 0 ks.toArray rfl rfl TH2.out HM2.out kso ?_))
 generalize V5.setCells (w.heap.size + 1) 0 ks = WF at *
 exact ⟨rfl, _, results_cell_row Tryz.results49 _ WF (w.heap.size + 1) 57 ks.toArray (0, 0) _ rfl XF.out Tryz.underlying57 rfl HM2.out, (by obtain ⟨K, e, r⟩ := FIN.out; exact ⟨K, by rw [e], r⟩)⟩

theorem sentPut_any (n : Nat) (N : NodV) (D : Nd) (ti : Int) (w : World) (h : NodAt n w N D) (hs : D.small n) (tn : Nat) (hto : ti = tn) (htn : tn < D.nx.length) (hlb : I64 N.lb) (hnx : I64 (feedX D ti)) (hn1 : I64 (feedX D ti - 1)) :
  Calls Tryz.prog 49 #[N.val, .int .i64 ti, .int .i64 3] w fun e w' => ∃ K : RpcV, e = .returned K.val ∧ (rpPu N D ti (.slice none 0 0) zM).like K ∧ RpcDh n w' w.heap.size w'.heap.size K ⟨entsB N.lb D.l (feedX D ti), zT, []⟩ ∧ Below w.heap.size w w' := by
 have SAY : Hid (∀ u b, Below w.heap.size w u → w.heap.size ≤ b → u.heap[b]? = some (.cells #[.int .i64 3, .int .i64 N.id, .int .i64 ti, .int .i64 N.te, .int .i64 0, .int .i64 0, .int .i64 0, .bool false, .slice none 0 0, .bool false, .slice none 0 0, .slice none 0 0, .slice none 0 0, .slice none 0 0, .slice none 0 0] 57 (0, 0)) → Calls Tryz.prog 118 #[.pointer (some ⟨b, 0, none⟩), N.val] u fun e w' => e = .returned (.tuple #[]) ∧ ∃ K : RpcV, (rpPu N D ti (.slice none 0 0) zM).like K ∧ w'.heap[b]? = some (.cells (rpcArr K) 57 (0, 0)) ∧ RpcDh n w' u.heap.size w'.heap.size K ⟨entsB N.lb D.l (feedX D ti), zT, []⟩ ∧ Chg (fun g => g = b) u w') := fun u b hu hb hx => sayEntries_any n N D w u b ti h hs tn hto htn hlb hnx hn1 hu hb hx
 clear h hs hto htn hlb hnx hn1
 generalize hLK : (rpPu N D ti (.slice none 0 0) zM).like = LK at *
 clear hLK
 generalize hDD : (⟨entsB N.lb D.l (feedX D ti), zT, []⟩ : Rd) = DD at *
 clear hDD
 obtain ⟨id, nte, vo, lb, lt, lv, ⟨⟨sl, sp, sc, sk, sb⟩, sv⟩, ro, vv, nv, mv, ncm, ⟨⟨ol, op, oc, ok, ob⟩, ov⟩⟩ := N
 replace SAY : Hid (∀ u b, Below w.heap.size w u → w.heap.size ≤ b → u.heap[b]? = some (.cells #[.int .i64 3, .int .i64 id, .int .i64 ti, .int .i64 nte, .int .i64 0, .int .i64 0, .int .i64 0, .bool false, .slice none 0 0, .bool false, .slice none 0 0, .slice none 0 0, .slice none 0 0, .slice none 0 0, .slice none 0 0] 57 (0, 0)) → Calls Tryz.prog 118 #[.pointer (some ⟨b, 0, none⟩), .agg (List.toArray ([.int .i64 id, .int .i64 nte, .int .i64 vo, .int .i64 lb, .int .i64 lt, lv, .bool sl, sp, sc, sk, sb, sv, .int .i64 ro, vv, nv, mv, .int .i64 ncm, .bool ol, op, oc, ok, ob, ov] : List Value))] u fun e w' => e = .returned (.tuple #[]) ∧ ∃ K : RpcV, LK K ∧ w'.heap[b]? = some (.cells (rpcArr K) 57 (0, 0)) ∧ RpcDh n w' u.heap.size w'.heap.size K DD ∧ Chg (fun g => g = b) u w') := SAY
 have HI : Hid ((Tryz.prog.info? 50).map (·.size) = some (List.length ([.int .i64 id, .int .i64 nte, .int .i64 vo, .int .i64 lb, .int .i64 lt, lv, .bool sl, sp, sc, sk, sb, sv, .int .i64 ro, vv, nv, mv, .int .i64 ncm, .bool ol, op, oc, ok, ob, ov] : List Value))) := (show (Tryz.prog.info? 50).map (·.size) = some 23 by kernel_rfl)
 have B1 : Hid (Below w.heap.size w ((w.alloc (.cells #[.int .i64 id, .int .i64 nte, .int .i64 vo, .int .i64 lb, .int .i64 lt, lv, .bool sl, sp, sc, sk, sb, sv, .int .i64 ro, vv, nv, mv, .int .i64 ncm, .bool ol, op, oc, ok, ob, ov] 50)).alloc (.cells #[.int .i64 0, .int .i64 0, .int .i64 0, .int .i64 0, .int .i64 0, .int .i64 0, .int .i64 0, .bool false, .slice none 0 0, .bool false, .slice none 0 0, .slice none 0 0, .slice none 0 0, .slice none 0 0, .slice none 0 0] 57))) := Below.and (bel_nw _ _) (bel_nw _ _)
 have Y1 : Hid (((w.alloc (.cells #[.int .i64 id, .int .i64 nte, .int .i64 vo, .int .i64 lb, .int .i64 lt, lv, .bool sl, sp, sc, sk, sb, sv, .int .i64 ro, vv, nv, mv, .int .i64 ncm, .bool ol, op, oc, ok, ob, ov] 50)).alloc (.cells #[.int .i64 0, .int .i64 0, .int .i64 0, .int .i64 0, .int .i64 0, .int .i64 0, .int .i64 0, .bool false, .slice none 0 0, .bool false, .slice none 0 0, .slice none 0 0, .slice none 0 0, .slice none 0 0, .slice none 0 0] 57)).heap[w.heap.size]? = some (.cells (List.toArray ([.int .i64 id, .int .i64 nte, .int .i64 vo, .int .i64 lb, .int .i64 lt, lv, .bool sl, sp, sc, sk, sb, sv, .int .i64 ro, vv, nv, mv, .int .i64 ncm, .bool ol, op, oc, ok, ob, ov] : List Value)) 50 (0, 0))) := step_at (MBox.start 50 w #[.int .i64 id, .int .i64 nte, .int .i64 vo, .int .i64 lb, .int .i64 lt, lv, .bool sl, sp, sc, sk, sb, sv, .int .i64 ro, vv, nv, mv, .int .i64 ncm, .bool ol, op, oc, ok, ob, ov]) (bel_nw _ _)
 have Y2 : Hid (((w.alloc (.cells #[.int .i64 id, .int .i64 nte, .int .i64 vo, .int .i64 lb, .int .i64 lt, lv, .bool sl, sp, sc, sk, sb, sv, .int .i64 ro, vv, nv, mv, .int .i64 ncm, .bool ol, op, oc, ok, ob, ov] 50)).alloc (.cells #[.int .i64 0, .int .i64 0, .int .i64 0, .int .i64 0, .int .i64 0, .int .i64 0, .int .i64 0, .bool false, .slice none 0 0, .bool false, .slice none 0 0, .slice none 0 0, .slice none 0 0, .slice none 0 0, .slice none 0 0] 57)).heap[w.heap.size + 1]? = some (.cells #[.int .i64 0, .int .i64 0, .int .i64 0, .int .i64 0, .int .i64 0, .int .i64 0, .int .i64 0, .bool false, .slice none 0 0, .bool false, .slice none 0 0, .slice none 0 0, .slice none 0 0, .slice none 0 0, .slice none 0 0] 57 (0, 0))) := by
  have := MBox.start 57 (w.alloc (.cells #[.int .i64 id, .int .i64 nte, .int .i64 vo, .int .i64 lb, .int .i64 lt, lv, .bool sl, sp, sc, sk, sb, sv, .int .i64 ro, vv, nv, mv, .int .i64 ncm, .bool ol, op, oc, ok, ob, ov] 50)) #[.int .i64 0, .int .i64 0, .int .i64 0, .int .i64 0, .int .i64 0, .int .i64 0, .int .i64 0, .bool false, .slice none 0 0, .bool false, .slice none 0 0, .slice none 0 0, .slice none 0 0, .slice none 0 0, .slice none 0 0]
  rw [World.size_alloc] at this
  exact this
 have zw : ((w.alloc (.cells #[.int .i64 id, .int .i64 nte, .int .i64 vo, .int .i64 lb, .int .i64 lt, lv, .bool sl, sp, sc, sk, sb, sv, .int .i64 ro, vv, nv, mv, .int .i64 ncm, .bool ol, op, oc, ok, ob, ov] 50)).alloc (.cells #[.int .i64 0, .int .i64 0, .int .i64 0, .int .i64 0, .int .i64 0, .int .i64 0, .int .i64 0, .bool false, .slice none 0 0, .bool false, .slice none 0 0, .slice none 0 0, .slice none 0 0, .slice none 0 0, .slice none 0 0] 57)).heap.size = w.heap.size + 2 := by simp
 show Calls Tryz.prog 49 #[.agg #[.int .i64 id, .int .i64 nte, .int .i64 vo, .int .i64 lb, .int .i64 lt, lv, .bool sl, sp, sc, sk, sb, sv, .int .i64 ro, vv, nv, mv, .int .i64 ncm, .bool ol, op, oc, ok, ob, ov], .int .i64 ti, .int .i64 3] w _
 go_enter Tryz.func49, Tryz.ntmps49
 go_upto_region 1 with fail
 generalize ((w.alloc (.cells #[.int .i64 id, .int .i64 nte, .int .i64 vo, .int .i64 lb, .int .i64 lt, lv, .bool sl, sp, sc, sk, sb, sv, .int .i64 ro, vv, nv, mv, .int .i64 ncm, .bool ol, op, oc, ok, ob, ov] 50)).alloc (.cells #[.int .i64 0, .int .i64 0, .int .i64 0, .int .i64 0, .int .i64 0, .int .i64 0, .int .i64 0, .bool false, .slice none 0 0, .bool false, .slice none 0 0, .slice none 0 0, .slice none 0 0, .slice none 0 0, .slice none 0 0] 57)) = W at *
 have k0 : W.cell? ⟨w.heap.size, 0, none⟩ = some (.int .i64 id) := cell_of_cells Y1.out
 have k1 : W.cell? ⟨w.heap.size, 1, none⟩ = some (.int .i64 nte) := cell_of_cells Y1.out
 generalize ([.int .i64 id, .int .i64 nte, .int .i64 vo, .int .i64 lb, .int .i64 lt, lv, .bool sl, sp, sc, sk, sb, sv, .int .i64 ro, vv, nv, mv, .int .i64 ncm, .bool ol, op, oc, ok, ob, ov] : List Value) = cs at *
 have zB : w.heap.size + 2 ≤ W.heap.size := by omega
 have na : Below W.heap.size W (W.alloc (.cells #[.int .i64 3, .int .i64 id, .int .i64 ti, .int .i64 nte, .int .i64 0, .int .i64 0, .int .i64 0, .bool false, .slice none 0 0, .bool false, .slice none 0 0, .slice none 0 0, .slice none 0 0, .slice none 0 0, .slice none 0 0] 57)) := bel_nw _ _
 have X : Hid ((W.alloc (.cells #[.int .i64 3, .int .i64 id, .int .i64 ti, .int .i64 nte, .int .i64 0, .int .i64 0, .int .i64 0, .bool false, .slice none 0 0, .bool false, .slice none 0 0, .slice none 0 0, .slice none 0 0, .slice none 0 0, .slice none 0 0] 57)).heap[W.heap.size]? = some (.cells #[.int .i64 3, .int .i64 id, .int .i64 ti, .int .i64 nte, .int .i64 0, .int .i64 0, .int .i64 0, .bool false, .slice none 0 0, .bool false, .slice none 0 0, .slice none 0 0, .slice none 0 0, .slice none 0 0, .slice none 0 0] 57 (0, 0))) := heap_alloc_new W _
 replace Y1 := hid9 (step_at Y1.out na)
 replace Y2 := hid9 (step_at Y2.out na)
 replace B1 := hid9 (Below.and B1.out na)
 have zV := hid9 na.size
 clear na zw
 go_upto_region 2 with fail
 clear k0 k1
 generalize W.alloc (.cells #[.int .i64 3, .int .i64 id, .int .i64 ti, .int .i64 nte, .int .i64 0, .int .i64 0, .int .i64 0, .bool false, .slice none 0 0, .bool false, .slice none 0 0, .slice none 0 0, .slice none 0 0, .slice none 0 0, .slice none 0 0] 57) = V at *
 generalize W.heap.size = b at *
 have KE : Hid (∀ u, Below V.heap.size V u → u.rangeAt w.heap.size 0 cs) := fun u hu => by have := range_of (step_at Y1.out hu); rw [List.toList_toArray] at this; exact this
 have RLL : Hid (Below V.heap.size V V.drew) := (Below.refl _ _).drew
 refine wp_region_held_drew (S := (fun u : World => u.rangeAt w.heap.size 0 cs)) (by kernel_rfl) (KE.out _ RLL.out) (fun hH => ?_)
 refine wpAnyH_take (i := 4) (oi := ⟨_, _, _, _, _, _⟩) (v := .agg cs.toArray) rfl (by kernel_rfl) (by kernel_rfl) (by kernel_rfl) (fun _ _ _ h => h) (yieldsIf_load_mid (by kernel_rfl) 50 _ rfl w.heap.size 0 rfl cs _ (fun _ hu => hu) Tryz.underlying50 rfl HI.out) (by assumption) ?_
 try simp only [Act.put, List.setIfInBounds_toArray, List.set_cons_zero, List.set_cons_succ]
 refine wpAnyH_take (i := 1) (oi := ⟨_, _, _, _, _, _⟩) (v := ?_) rfl (by kernel_rfl) (by kernel_rfl) (by kernel_rfl) (fun _ _ _ h => h) (Or.inl ⟨by rfl, ?_⟩) (by assumption) ?_
 rotate_left
 ·((intro w hSw; (try dsimp only at hSw); go_simp); (try with_reducible rfl))
 try simp only [Act.put, List.setIfInBounds_toArray, List.set_cons_zero, List.set_cons_succ]
 refine wpAnyH_ready (rs := [0]) (by kernel_rfl) (by simp) ?_
 refine AllReadyH.cons (o := ⟨_, _, _, _, _, _⟩) rfl (fun K hK => ?_) AllReadyH.nil
 refine (if_pos (show Region.wanted _ _ = true by kernel_rfl)).mpr ?_
 refine call_by 81 [] #[] rfl run_kinds _ rfl (rpcKinds_any _) ?_
 rintro e u2 ⟨rfl, mb, b3⟩
 have MB := hid9 mb
 replace RLL := hid9 (Below.and RLL.out b3)
 clear b3 mb
 generalize V.drew.heap.size = mp at *
 refine ⟨_, rfl, ?_⟩
 refine hK.out _ _ (KE.out _ RLL.out) (fun hH2 => ?_)
 clear hK K hH
 have hH := hH2
 clear hH2
 try simp only [Act.put, List.setIfInBounds_toArray, List.set_cons_zero, List.set_cons_succ]
 refine wpAnyH_ready (rs := [2]) (by kernel_rfl) (by simp) ?_
 refine AllReadyH.cons (o := ⟨_, _, _, _, _, _⟩) rfl (fun K hK => ?_) AllReadyH.nil
 refine (if_pos (show Region.wanted _ _ = true by kernel_rfl)).mpr ?_
 refine wp_look3 _ _ rfl mp rfl rfl MB.out ?_
 refine hK.out _ _ (KE.out _ RLL.out) (fun hH2 => ?_)
 clear hK K hH MB
 have hH := hH2
 clear hH2
 try simp only [Act.put, List.setIfInBounds_toArray, List.set_cons_zero, List.set_cons_succ]
 refine wpAnyH_take (i := 3) (oi := ⟨_, _, _, _, _, _⟩) (v := .func (.func 118) #[] #[]) rfl (by kernel_rfl) (by kernel_rfl) (by kernel_rfl) (fun _ _ _ h => h) (Or.inl ⟨by rfl, fun w hSw => by go_simp; rw [fld3]; rfl⟩) (by assumption) ?_
 try simp only [Act.put, List.setIfInBounds_toArray, List.set_cons_zero, List.set_cons_succ]
 have SY := hid9 (SAY.out u2 b (Below.and B1.out RLL.out) (by omega) (step_at X.out RLL.out))
 replace Y2 := hid9 (step_at Y2.out RLL.out)
 replace B1 := hid9 (Below.and B1.out RLL.out)
 have zu : Hid (V.heap.size ≤ u2.heap.size) := RLL.out.size
 refine wpAnyH_ready (rs := [5]) (by kernel_rfl) (by simp) ?_
 refine AllReadyH.cons (o := ⟨_, _, _, _, _, _⟩) rfl (fun K hK => ?_) AllReadyH.nil
 refine (if_pos (show Region.wanted _ _ = true by kernel_rfl)).mpr ?_
 refine call_byv 118 18 [.tmp 7, .tmp 19] #[119, 50] rfl rfl run_sayEntries _ rfl SY.out ?_
 rintro e V5 ⟨rfl, K5, lk, hx, rd, gc⟩
 refine ⟨_, rfl, ?_⟩
 have RR : Hid (V5.rangeAt w.heap.size 0 cs) := by have := range_of (row_chg (step_at Y1.out RLL.out) gc (fun e => by omega)); rw [List.toList_toArray] at this; exact this
 refine hK.out _ _ RR.out (fun hH2 => ?_)
 clear hK K hH RR SY KE
 try simp only [Act.put, List.setIfInBounds_toArray, List.set_cons_zero, List.set_cons_succ]
 refine wpAnyH_done (by kernel_rfl) ?_ _
 clear hH2
 replace Y2 := hid9 (row_chg Y2.out gc (fun e => by omega))
 replace B1 := hid9 (B1.out.trans (gc.below (fun g _ hg => by omega) B1.out.size))
 obtain ⟨ks, ksv, ksl, kso⟩ := rd.at.cells
 have X5 : Hid (V5.heap[b]? = some (.cells ks.toArray 57 (0, 0))) := by
  have e2 := ksv
  simp only [RpcV.val] at e2
  injection e2 with e3
  rw [← e3]
  exact hx
 have LKK := hid9 lk
 have RD := hid9 rd
 have zf : Hid (w.heap.size + 2 ≤ u2.heap.size) := by have := zu.out; have := zV.out; show _ ≤ _; omega
 clear hx gc lk rd RLL X Y1 zu zV SAY HI
 have RG : Hid (V5.rangeAt b 0 ks) := by have := range_of X5.out; rw [List.toList_toArray] at this; exact this
 have TH2 : Hid (V5.there (w.heap.size + 1) 0 ks.toArray.size) := there_of Y2.out (show 15 = ks.toArray.size by rw [List.size_toArray, ksl])
 have GC : Hid (Chg (fun g => g = (w.heap.size + 1)) V5 (V5.setCells (w.heap.size + 1) 0 ks)) := Chg.setCells (F := fun g => g = (w.heap.size + 1)) (g := (w.heap.size + 1)) (fun _ => rfl) ks 0 V5 (Chg.refl _ _)
 have XF : Hid ((V5.setCells (w.heap.size + 1) 0 ks).heap[(w.heap.size + 1)]? = some (.cells ks.toArray 57 (0, 0))) := setAll_at Y2.out ks (by rw [ksl]; rfl)
 have HM1 : Hid ((Tryz.prog.info? 57).map (·.size) = some ks.length) := by show _ = _; rw [ksl]; kernel_rfl
 have HM2 : Hid ((Tryz.prog.info? 57).map (·.size) = some ks.toArray.size) := by show _ = _; rw [List.size_toArray]; exact HM1.out
 have FIN : Hid (∃ K : RpcV, Value.agg ks.toArray = K.val ∧ LK K ∧ RpcDh n (V5.setCells (w.heap.size + 1) 0 ks) w.heap.size (V5.setCells (w.heap.size + 1) 0 ks).heap.size K DD ∧ Below w.heap.size w (V5.setCells (w.heap.size + 1) 0 ks)) := ⟨K5, ksv.symm, LKK.out, (RD.out.chg GC.out (fun g a _ e => by have := zf.out; omega)).up (by have := zf.out; omega) GC.out.size (Nat.le_refl _), B1.out.trans (GC.out.below (fun g _ hg => by omega) B1.out.size)⟩
 clear GC RD LKK B1 Y2 X5
 go_wp2_with (first | (refine wpList_load_mid rfl 57 _ rfl b 0 rfl ks _ RG.out Tryz.underlying57 rfl HM1.out ?_) | (refine wpList_store_mid rfl 57 _ _ rfl (w.heap.size + 1) 0 ks.toArray rfl rfl TH2.out HM2.out kso ?_))
 generalize V5.setCells (w.heap.size + 1) 0 ks = WF at *
 exact ⟨rfl, _, results_cell_row Tryz.results49 _ WF (w.heap.size + 1) 57 ks.toArray (0, 0) _ rfl XF.out Tryz.underlying57 rfl HM2.out, (by obtain ⟨K, e, r⟩ := FIN.out; exact ⟨K, by rw [e], r⟩)⟩
end
section
open Go.RowKit

def riseD (b : Bool) (D : Nd) : Nd := if b then ⟨D.l, D.T1, D.d1, List.replicate D.vs.length false, List.replicate D.nx.length 1, List.replicate D.mt.length 0, D.T1, D.d1⟩ else D
def riseL (b : Bool) (N M : NodV) : Prop := N.id = M.id ∧ N.te = M.te ∧ N.vo = M.vo ∧ N.lb = M.lb ∧ N.lt = M.lt ∧ (if b then 0 else N.ro) = M.ro ∧ (if b then N.lb else N.cm) = M.cm
def Nd.tot (n : Nat) (D : Nd) : Nat := D.l.length + (sizeT n D.T1 + D.d1.length) + D.vs.length + D.nx.length + D.mt.length + (sizeT n D.T2 + D.d2.length)

def setAllF (z : Value) : Nat → Nat → List Value → List Value
 | 0, _, xs => xs
 | m + 1, i, xs => setAllF z m (i + 1) (xs.set i z)
end
section
open Go.RowKit
end
end Go.Proofs.YtmdajbbpigbdcaaGreat
