/-
  The program's NodeNew.
-/
import Derived.Test.YtdcladffnjikkaaOfWn12
import Derived.Test.YtdcladffnjikkaaOfWn17
import Derived.Test.YtdcladffnjikkaaOfWn19
namespace Go.Proofs.Ytdcladffnjikkaa
set_option maxRecDepth 100000
set_option maxHeartbeats 8000000
section
open Go.RowKit

theorem results_cell_two {P : Program} {fn : Func} {p q : Tmp} {ty : TypeId} (h : fn.results = #[.cell p ty, .tmp q]) (tmps : Array Value) (w : World) (g : Nat) (t : TypeId) (cs : Array Value) (fr : Nat × Nat) (d : TypeDesc)
  (hp : tmps.getD p undef = .pointer (some ⟨g, 0, none⟩)) (hg : w.heap[g]? = some (.cells cs t fr))
  (hu : P.underlying ty = some d) (hd : (match d with | .struct _ | .array _ _ => true | _ => false) = true) (hi : (P.info? ty).map (·.size) = some cs.size) :
  (results fn tmps).run P w = .ok (.tuple #[.agg cs, tmps.getD q undef]) w := by
 have hp' : tmps[p]?.getD undef = .pointer (some ⟨g, 0, none⟩) := by simpa using hp
 simp [results, h, hp', asAddr, run_loadVar_row w g t ty cs fr d hg hu hd hi]
theorem run_mnI (args : Array Value) (w : World) : (callFunc 32 args).run Try.prog w = .ok (.enter 32 args) w := by go_simp
def nnB (id size : Int) : Bool := inB size 1 5 && inB id 0 (size - 1)
def newV (b : Bool) (id : Int) : NodV := if b then ⟨id, 0, -1, 0, 0, .slice none 0 0, eM, 0, .slice none 0 0, .slice none 0 0, .slice none 0 0, 0, eM⟩ else ⟨0, 0, 0, 0, 0, .slice none 0 0, zM, 0, .slice none 0 0, .slice none 0 0, .slice none 0 0, 0, zM⟩
def newD (b : Bool) (k : Nat) : Nd := if b then ⟨[], nwT, [], List.replicate k false, List.replicate k 1, List.replicate k 0, nwT, []⟩ else ⟨[], zT, [], [], [], [], zT, []⟩
def MkN (n : Nat) (w : World) (lo hi : Nat) (K : NodV) (D : Nd) : Prop := NodA n w (fun g => lo ≤ g ∧ g < hi) K D
theorem wp_mkV {o : Oper} {a : Act} {W : World} {K : Act → World → Prop} {Q : Exit → Act → World → Prop} (l c : Operand) (k : Nat) (ho : o.op = Op.makeSlice 46 l c) (hl : a.eval l = .int .i64 (k : Int)) (hc : a.eval c = .int .i64 (k : Int)) (hk1 : 1 ≤ k) (hk : k ≤ 5)
  (h : ∀ u, Below W.heap.size W u → W.heap.size < u.heap.size → OwnI u W.heap.size (W.heap.size + 1) 4 1 (.slice (some ⟨W.heap.size, 0, none⟩) k k) k (List.replicate k (.bool false)) → K (a.put o.dst (.slice (some ⟨W.heap.size, 0, none⟩) k k)) u) : o.wp Try.prog a W K Q := by
 obtain ⟨i0, hi, hz0, hz1, hz2⟩ := info_parts Try.info4
 refine wp_make l c 46 ho W.heap.size 4 i0 _ 1 Try.underlying46 hi hz0 hz1 k hl hc (by rw [hz2]; omega) (by unfold maxLen; omega) (Nat.le_refl _) ?_
 intro u oz gz
 have bz : Below W.heap.size W u := (Below.refl _ _).grown gz (Nat.le_refl _) (fun k hk => by cases hk)
 rw [madeCells_all _ (.bool false) (by decide) (fun i hi => by match i, hi with | 0, _ => rfl)] at oz
 have ow : OwnE u W.heap.size 4 1 (.slice (some ⟨W.heap.size, 0, none⟩) k k) k (List.replicate k (.bool false)) := OwnE.of_owns (by simpa using oz)
 exact h u bz (ow.lt _ ⟨k, k, rfl, by omega⟩).2 ⟨ow, fun g hg => by obtain ⟨n, c, e, _⟩ := hg; simp at e; omega⟩
theorem wp_mkI {o : Oper} {a : Act} {W : World} {K : Act → World → Prop} {Q : Exit → Act → World → Prop} (l c : Operand) (k : Nat) (ho : o.op = Op.makeSlice 39 l c) (hl : a.eval l = .int .i64 (k : Int)) (hc : a.eval c = .int .i64 (k : Int)) (hk1 : 1 ≤ k) (hk : k ≤ 5)
  (h : ∀ u, Below W.heap.size W u → W.heap.size < u.heap.size → OwnI u W.heap.size (W.heap.size + 1) 3 1 (.slice (some ⟨W.heap.size, 0, none⟩) k k) k (List.replicate k (.int .i64 0)) → K (a.put o.dst (.slice (some ⟨W.heap.size, 0, none⟩) k k)) u) : o.wp Try.prog a W K Q := by
 obtain ⟨i0, hi, hz0, hz1, hz2⟩ := info_parts Try.info3
 refine wp_make l c 39 ho W.heap.size 3 i0 _ 1 Try.underlying39 hi hz0 hz1 k hl hc (by rw [hz2]; omega) (by unfold maxLen; omega) (Nat.le_refl _) ?_
 intro u oz gz
 have bz : Below W.heap.size W u := (Below.refl _ _).grown gz (Nat.le_refl _) (fun k hk => by cases hk)
 rw [madeCells_all _ (.int .i64 0) (by decide) (fun i hi => by match i, hi with | 0, _ => rfl)] at oz
 have ow : OwnE u W.heap.size 3 1 (.slice (some ⟨W.heap.size, 0, none⟩) k k) k (List.replicate k (.int .i64 0)) := OwnE.of_owns (by simpa using oz)
 exact h u bz (ow.lt _ ⟨k, k, rfl, by omega⟩).2 ⟨ow, fun g hg => by obtain ⟨n, c, e, _⟩ := hg; simp at e; omega⟩
theorem wp_newN {o : Oper} {a : Act} {W : World} {K : Act → World → Prop} {Q : Exit → Act → World → Prop} (ho : o.op = .alloc 48) (h : K (a.put o.dst (.pointer (some ⟨W.heap.size, 0, none⟩))) (W.alloc (.cells #[.int .i64 0, .int .i64 0, .int .i64 0, .int .i64 0, .int .i64 0, .slice none 0 0, .bool false, .slice none 0 0, .slice none 0 0, .slice none 0 0, .slice none 0 0, .slice none 0 0, .int .i64 0, .slice none 0 0, .slice none 0 0, .slice none 0 0, .int .i64 0, .bool false, .slice none 0 0, .slice none 0 0, .slice none 0 0, .slice none 0 0, .slice none 0 0] 48))) : o.wp Try.prog a W K Q := by
 unfold Oper.wp execOp
 simp only [ho]
 go_simp
 exact h
def NI (w : World) (k : Nat) (b3 b5 b7 b9 : Bool) (gV gN gM gB : Nat) (W : World) : Prop :=
 Below w.heap.size w W ∧ w.heap.size + 1 ≤ W.heap.size ∧ W.heap[w.heap.size]? = some (.cells #[.int .i64 0, .int .i64 0, .int .i64 0, .int .i64 0, .int .i64 0, .slice none 0 0, .bool false, .slice none 0 0, .slice none 0 0, .slice none 0 0, .slice none 0 0, .slice none 0 0, .int .i64 0, .slice none 0 0, .slice none 0 0, .slice none 0 0, .int .i64 0, .bool false, .slice none 0 0, .slice none 0 0, .slice none 0 0, .slice none 0 0, .slice none 0 0] 48 (0, 0)) ∧
 (b3 = true → w.heap.size < gV ∧ gV < W.heap.size ∧ OwnI W gV (gV + 1) 4 1 (.slice (some ⟨gV, 0, none⟩) k k) k (List.replicate k (.bool false))) ∧ (b5 = true → w.heap.size < gN ∧ gN < W.heap.size ∧ OwnI W gN (gN + 1) 3 1 (.slice (some ⟨gN, 0, none⟩) k k) k (List.replicate k (.int .i64 0))) ∧ (b7 = true → w.heap.size < gM ∧ gM < W.heap.size ∧ OwnI W gM (gM + 1) 3 1 (.slice (some ⟨gM, 0, none⟩) k k) k (List.replicate k (.int .i64 0))) ∧
 (b9 = true → w.heap.size < gB ∧ gB < W.heap.size ∧ W.heap[gB]? = some (.cells #[.int .i64 0, .int .i64 0, .int .i64 0, .int .i64 0, .int .i64 0, .slice none 0 0, .bool false, .slice none 0 0, .slice none 0 0, .slice none 0 0, .slice none 0 0, .slice none 0 0, .int .i64 0, .slice none 0 0, .slice none 0 0, .slice none 0 0, .int .i64 0, .bool false, .slice none 0 0, .slice none 0 0, .slice none 0 0, .slice none 0 0, .slice none 0 0] 48 (0, 0))) ∧
 (b3 = true → b5 = true → gV ≠ gN) ∧ (b3 = true → b7 = true → gV ≠ gM) ∧ (b5 = true → b7 = true → gN ≠ gM) ∧ (b3 = true → b9 = true → gV ≠ gB) ∧ (b5 = true → b9 = true → gN ≠ gB) ∧ (b7 = true → b9 = true → gM ≠ gB)
theorem NI.step {w : World} {k : Nat} {b3 b5 b7 b9 : Bool} {gV gN gM gB : Nat} {W W' : World} (h : NI w k b3 b5 b7 b9 gV gN gM gB W) (hb : Below W.heap.size W W') : NI w k b3 b5 b7 b9 gV gN gM gB W' := by
 obtain ⟨h1, h2, h3, h4, h5, h6, h7, q⟩ := h
 exact ⟨Below.and h1 hb, Nat.le_trans h2 hb.size, step_at h3 hb, fun e => ⟨(h4 e).1, Nat.lt_of_lt_of_le (h4 e).2.1 hb.size, (h4 e).2.2.below hb⟩, fun e => ⟨(h5 e).1, Nat.lt_of_lt_of_le (h5 e).2.1 hb.size, (h5 e).2.2.below hb⟩, fun e => ⟨(h6 e).1, Nat.lt_of_lt_of_le (h6 e).2.1 hb.size, (h6 e).2.2.below hb⟩, fun e => ⟨(h7 e).1, Nat.lt_of_lt_of_le (h7 e).2.1 hb.size, step_at (h7 e).2.2 hb⟩, q⟩
theorem NI.vot {w : World} {k : Nat} {b5 b7 b9 : Bool} {gV gN gM gB : Nat} {W W' : World} (h : NI w k false b5 b7 b9 gV gN gM gB W) (hb : Below W.heap.size W W') (hl : W.heap.size < W'.heap.size) (ho : OwnI W' W.heap.size (W.heap.size + 1) 4 1 (.slice (some ⟨W.heap.size, 0, none⟩) k k) k (List.replicate k (.bool false))) : NI w k true b5 b7 b9 W.heap.size gN gM gB W' := by
 obtain ⟨h1, h2, h3, h4, h5, h6, h7, q1, q2, q3, q4, q5, q6⟩ := h.step hb
 obtain ⟨k1, k2, k3, k4, k5, k6, k7, -⟩ := h
 exact ⟨h1, h2, h3, fun _ => ⟨by omega, hl, ho⟩, h5, h6, h7, fun _ e => by have := (k5 e).2.1; omega, fun _ e => by have := (k6 e).2.1; omega, q3, fun _ e => by have := (k7 e).2.1; omega, q5, q6⟩
theorem NI.nex {w : World} {k : Nat} {b3 b7 b9 : Bool} {gV gN gM gB : Nat} {W W' : World} (h : NI w k b3 false b7 b9 gV gN gM gB W) (hb : Below W.heap.size W W') (hl : W.heap.size < W'.heap.size) (ho : OwnI W' W.heap.size (W.heap.size + 1) 3 1 (.slice (some ⟨W.heap.size, 0, none⟩) k k) k (List.replicate k (.int .i64 0))) : NI w k b3 true b7 b9 gV W.heap.size gM gB W' := by
 obtain ⟨h1, h2, h3, h4, h5, h6, h7, q1, q2, q3, q4, q5, q6⟩ := h.step hb
 obtain ⟨k1, k2, k3, k4, k5, k6, k7, -⟩ := h
 exact ⟨h1, h2, h3, h4, fun _ => ⟨by omega, hl, ho⟩, h6, h7, fun e _ => by have := (k4 e).2.1; omega, q2, fun _ e => by have := (k6 e).2.1; omega, q4, fun _ e => by have := (k7 e).2.1; omega, q6⟩
theorem NI.mat {w : World} {k : Nat} {b3 b5 b9 : Bool} {gV gN gM gB : Nat} {W W' : World} (h : NI w k b3 b5 false b9 gV gN gM gB W) (hb : Below W.heap.size W W') (hl : W.heap.size < W'.heap.size) (ho : OwnI W' W.heap.size (W.heap.size + 1) 3 1 (.slice (some ⟨W.heap.size, 0, none⟩) k k) k (List.replicate k (.int .i64 0))) : NI w k b3 b5 true b9 gV gN W.heap.size gB W' := by
 obtain ⟨h1, h2, h3, h4, h5, h6, h7, q1, q2, q3, q4, q5, q6⟩ := h.step hb
 obtain ⟨k1, k2, k3, k4, k5, k6, k7, -⟩ := h
 exact ⟨h1, h2, h3, h4, h5, fun _ => ⟨by omega, hl, ho⟩, h7, q1, fun e _ => by have := (k4 e).2.1; omega, fun e _ => by have := (k5 e).2.1; omega, q4, q5, fun _ e => by have := (k7 e).2.1; omega⟩
theorem NI.var {w : World} {k : Nat} {b3 b5 b7 : Bool} {gV gN gM gB : Nat} {W : World} (h : NI w k b3 b5 b7 false gV gN gM gB W) : NI w k b3 b5 b7 true gV gN gM W.heap.size (W.alloc (.cells #[.int .i64 0, .int .i64 0, .int .i64 0, .int .i64 0, .int .i64 0, .slice none 0 0, .bool false, .slice none 0 0, .slice none 0 0, .slice none 0 0, .slice none 0 0, .slice none 0 0, .int .i64 0, .slice none 0 0, .slice none 0 0, .slice none 0 0, .int .i64 0, .bool false, .slice none 0 0, .slice none 0 0, .slice none 0 0, .slice none 0 0, .slice none 0 0] 48)) := by
 have hb : Below W.heap.size W (W.alloc (.cells #[.int .i64 0, .int .i64 0, .int .i64 0, .int .i64 0, .int .i64 0, .slice none 0 0, .bool false, .slice none 0 0, .slice none 0 0, .slice none 0 0, .slice none 0 0, .slice none 0 0, .int .i64 0, .slice none 0 0, .slice none 0 0, .slice none 0 0, .int .i64 0, .bool false, .slice none 0 0, .slice none 0 0, .slice none 0 0, .slice none 0 0, .slice none 0 0] 48)) := bel_nw _ _
 obtain ⟨h1, h2, h3, h4, h5, h6, h7, q1, q2, q3, q4, q5, q6⟩ := h.step hb
 obtain ⟨k1, k2, k3, k4, k5, k6, k7, -⟩ := h
 exact ⟨h1, h2, h3, h4, h5, h6, fun _ => ⟨by omega, by simp, heap_alloc_new W _⟩, q1, q2, q3, fun e _ => by have := (k4 e).2.1; omega, fun e _ => by have := (k5 e).2.1; omega, fun e _ => by have := (k6 e).2.1; omega⟩
theorem newD_small (b : Bool) {k : Nat} (hk : k ≤ 5) : (newD b k).small 1 := by
 cases b
 ·exact ⟨Nat.zero_le _, by simp [newD, sizeT, zT], Nat.zero_le _, Nat.zero_le _, Nat.zero_le _, Nat.zero_le _, by simp [newD, sizeT, zT], Nat.zero_le _⟩
 ·exact ⟨Nat.zero_le _, by simp [newD, sizeT, nwT], Nat.zero_le _, by simp [newD]; omega, by simp [newD]; omega, by simp [newD]; omega, by simp [newD, sizeT, nwT], Nat.zero_le _⟩
theorem zero_at (w : World) (id : Int) (k : Nat) : NodAt 1 w (newV false id) (newD false k) := ⟨(OwnE.nil w 0 101 6).rowF.row, MacD.at (nM_own false 0 w (fun _ => True)), (OwnE.nil w 0 4 1).rowF.row, (OwnE.nil w 0 3 1).rowF.row, (OwnE.nil w 0 3 1).rowF.row, MacD.at (nM_own false 0 w (fun _ => True))⟩
theorem zero_dh (w : World) (lo hi : Nat) (id : Int) (k : Nat) (h1 : lo ≤ hi) (h2 : hi ≤ w.heap.size) : NodDh 1 w lo hi (newV false id) (newD false k) :=
 ⟨lo, lo, lo, lo, lo, lo, Nat.le_refl _, Nat.le_refl _, Nat.le_refl _, Nat.le_refl _, Nat.le_refl _, Nat.le_refl _, h1, h2, ⟨OwnE.nil _ _ _ _, fun _ hg => (wrB_none hg).elim⟩, nM_own false 0 w _, ⟨OwnE.nil _ _ _ _, fun _ hg => (wrB_none hg).elim⟩, ⟨OwnE.nil _ _ _ _, fun _ hg => (wrB_none hg).elim⟩, ⟨OwnE.nil _ _ _ _, fun _ hg => (wrB_none hg).elim⟩, nM_own false 0 w _⟩
theorem implNodeNew_yes (id : Int) (k : Nat) (w : World) (h1 : inB (k : Int) 1 5 = true) (h2 : inB id 0 ((k : Int) - 1) = true) :
  Calls Try.prog 12 #[.int .i64 id, .int .i64 (k : Int)] w fun e w' => ∃ K : NodV, e = .returned (.tuple #[K.val, .bool true]) ∧ (newV true id).like K ∧ NodAt 1 w' K (newD true k) ∧ MkN 1 w' w.heap.size w'.heap.size K (newD true k) ∧ Below w.heap.size w w' := by
 have hk := inB_iff.1 h1
 have HK : Hid (1 ≤ k ∧ k ≤ 5) := ⟨by omega, by omega⟩
 clear hk
 have B1 : Hid (Below w.heap.size w (w.alloc (.cells #[.int .i64 0, .int .i64 0, .int .i64 0, .int .i64 0, .int .i64 0, .slice none 0 0, .bool false, .slice none 0 0, .slice none 0 0, .slice none 0 0, .slice none 0 0, .slice none 0 0, .int .i64 0, .slice none 0 0, .slice none 0 0, .slice none 0 0, .int .i64 0, .bool false, .slice none 0 0, .slice none 0 0, .slice none 0 0, .slice none 0 0, .slice none 0 0] 48))) := bel_nw _ _
 have zW : Hid (w.heap.size + 1 ≤ (w.alloc (.cells #[.int .i64 0, .int .i64 0, .int .i64 0, .int .i64 0, .int .i64 0, .slice none 0 0, .bool false, .slice none 0 0, .slice none 0 0, .slice none 0 0, .slice none 0 0, .slice none 0 0, .int .i64 0, .slice none 0 0, .slice none 0 0, .slice none 0 0, .int .i64 0, .bool false, .slice none 0 0, .slice none 0 0, .slice none 0 0, .slice none 0 0, .slice none 0 0] 48)).heap.size) := by show _ ≤ _; simp
 have Y1 : Hid ((w.alloc (.cells #[.int .i64 0, .int .i64 0, .int .i64 0, .int .i64 0, .int .i64 0, .slice none 0 0, .bool false, .slice none 0 0, .slice none 0 0, .slice none 0 0, .slice none 0 0, .slice none 0 0, .int .i64 0, .slice none 0 0, .slice none 0 0, .slice none 0 0, .int .i64 0, .bool false, .slice none 0 0, .slice none 0 0, .slice none 0 0, .slice none 0 0, .slice none 0 0] 48)).heap[w.heap.size]? = some (.cells #[.int .i64 0, .int .i64 0, .int .i64 0, .int .i64 0, .int .i64 0, .slice none 0 0, .bool false, .slice none 0 0, .slice none 0 0, .slice none 0 0, .slice none 0 0, .slice none 0 0, .int .i64 0, .slice none 0 0, .slice none 0 0, .slice none 0 0, .int .i64 0, .bool false, .slice none 0 0, .slice none 0 0, .slice none 0 0, .slice none 0 0, .slice none 0 0] 48 (0, 0))) := heap_alloc_new w _
 go_enter Try.func12, Try.ntmps12
 go_wp2_with fail
 refine (sizeOk_any _ _).mono ?_
 rintro e w1 ⟨rfl, hw1⟩
 subst hw1
 rw [h1]
 go_wp2_with fail
 refine (isOneOf_any _ _ _).mono ?_
 rintro e w1 ⟨rfl, hw1⟩
 subst hw1
 rw [h2]
 go_upto_region 3 with fail
 generalize (w.alloc (.cells #[.int .i64 0, .int .i64 0, .int .i64 0, .int .i64 0, .int .i64 0, .slice none 0 0, .bool false, .slice none 0 0, .slice none 0 0, .slice none 0 0, .slice none 0 0, .slice none 0 0, .int .i64 0, .slice none 0 0, .slice none 0 0, .slice none 0 0, .int .i64 0, .bool false, .slice none 0 0, .slice none 0 0, .slice none 0 0, .slice none 0 0, .slice none 0 0] 48)) = W at *
 refine wp_region_held_drew (S := fun _ => True) (by kernel_rfl) trivial (fun hH => ?_)
 refine wpAnyH_take (i := 0) (oi := ⟨_, _, _, _, _, _⟩) (v := ?_) rfl (by kernel_rfl) (by kernel_rfl) (by kernel_rfl) (fun _ _ _ h => h) (Or.inl ⟨by rfl, ?_⟩) (by assumption) ?_
 rotate_left
 ·((intro w hSw; (try dsimp only at hSw); go_simp); (try with_reducible rfl))
 try simp only [Act.put, List.setIfInBounds_toArray, List.set_cons_zero, List.set_cons_succ]
 refine wpAnyH_take (i := 2) (oi := ⟨_, _, _, _, _, _⟩) (v := ?_) rfl (by kernel_rfl) (by kernel_rfl) (by kernel_rfl) (fun _ _ _ h => h) (Or.inl ⟨by rfl, ?_⟩) (by assumption) ?_
 rotate_left
 ·((intro w hSw; (try dsimp only at hSw); go_simp); (try with_reducible rfl))
 try simp only [Act.put, List.setIfInBounds_toArray, List.set_cons_zero, List.set_cons_succ]
 refine wpAnyH_take (i := 4) (oi := ⟨_, _, _, _, _, _⟩) (v := ?_) rfl (by kernel_rfl) (by kernel_rfl) (by kernel_rfl) (fun _ _ _ h => h) (Or.inl ⟨by rfl, ?_⟩) (by assumption) ?_
 rotate_left
 ·((intro w hSw; (try dsimp only at hSw); go_simp); (try with_reducible rfl))
 try simp only [Act.put, List.setIfInBounds_toArray, List.set_cons_zero, List.set_cons_succ]
 refine wpAnyH_take (i := 6) (oi := ⟨_, _, _, _, _, _⟩) (v := ?_) rfl (by kernel_rfl) (by kernel_rfl) (by kernel_rfl) (fun _ _ _ h => h) (Or.inl ⟨by rfl, ?_⟩) (by assumption) ?_
 rotate_left
 ·((intro w hSw; (try dsimp only at hSw); go_simp); (try with_reducible rfl))
 try simp only [Act.put, List.setIfInBounds_toArray, List.set_cons_zero, List.set_cons_succ]
 refine rec5 (Inv := fun _ b3 b5 b7 b9 gV gN gM gB W => NI w k b3 b5 b7 b9 gV gN gM gB W) (lst := fun b1 b3 b5 b7 b9 => #[true, b1, true, b3, true, b5, true, b7, false, b9, false]) (act := fun b1 b3 b5 b7 b9 gV gN gM gB => (⟨#[.int .i64 id, .int .i64 (k : Int), undef, undef, .pointer (some ⟨w.heap.size, 0, none⟩), .bool false, (bif b9 then .pointer (some ⟨gB, 0, none⟩) else undef), .int .i64 (k : Int), .bool true, .bool false, .bool false, .int .i64 id, .int .i64 (k : Int), .bool true, .bool false, .bool false, undef, .int .i64 id, (bif b1 then emptyM else undef), .int .i64 (k : Int), (bif b3 then .slice (some ⟨gV, 0, none⟩) k k else undef), .int .i64 (k : Int), (bif b5 then .slice (some ⟨gN, 0, none⟩) k k else undef), .int .i64 (k : Int), (bif b7 then .slice (some ⟨gM, 0, none⟩) k k else undef), undef, undef, undef], []⟩ : Act)) (lstF := #[true, true, true, true, true, true, true, true, true, true, false]) (actF := fun gV gN gM gB => (⟨#[.int .i64 id, .int .i64 (k : Int), undef, undef, .pointer (some ⟨w.heap.size, 0, none⟩), .bool false, .pointer (some ⟨gB, 0, none⟩), .int .i64 (k : Int), .bool true, .bool false, .bool false, .int .i64 id, .int .i64 (k : Int), .bool true, .bool false, .bool false, undef, .int .i64 id, emptyM, .int .i64 (k : Int), .slice (some ⟨gV, 0, none⟩) k k, .int .i64 (k : Int), .slice (some ⟨gN, 0, none⟩) k k, .int .i64 (k : Int), .slice (some ⟨gM, 0, none⟩) k k, .agg #[.int .i64 id, .int .i64 0, .int .i64 (-1), .int .i64 0, .int .i64 0, .slice none 0 0, .bool true, .slice none 0 0, .slice none 0 0, .slice none 0 0, .slice none 0 0, .slice none 0 0, .int .i64 0, .slice (some ⟨gV, 0, none⟩) k k, .slice (some ⟨gN, 0, none⟩) k k, .slice (some ⟨gM, 0, none⟩) k k, .int .i64 0, .bool false, .slice none 0 0, .slice none 0 0, .slice none 0 0, .slice none 0 0, .slice none 0 0], undef, undef], []⟩ : Act)) ?fin ?base ?step false false false false false 0 0 0 0 _ ?inv
 case inv => exact ⟨(Below.and B1.out (Below.refl _ _).drew), zW.out, Y1.out, fun e => (by cases e), fun e => (by cases e), fun e => (by cases e), fun e => (by cases e), fun e => (by cases e), fun e => (by cases e), fun e => (by cases e), fun e => (by cases e), fun e => (by cases e), fun e => (by cases e)⟩
 case base =>
  intro fin gV gN gM gB W hI
  simp only [cond_true]
  refine wpAnyH_take (i := 8) (oi := ⟨_, _, _, _, _, _⟩) (v := ?_) rfl (by kernel_rfl) (by kernel_rfl) (by kernel_rfl) (fun _ _ _ h => h) (Or.inl ⟨by rfl, ?_⟩) (by assumption) ?_
  rotate_left
  ·((intro w hSw; (try dsimp only at hSw); go_simp); (try with_reducible rfl))
  try simp only [Act.put, List.setIfInBounds_toArray, List.set_cons_zero, List.set_cons_succ]
  exact fin gV gN gM gB W hI
 case step =>
  intro fin N ih b1 b3 b5 b7 b9 gV gN gM gB W hN hI
  cases b1 <;> cases b3 <;> cases b5 <;> cases b7 <;> cases b9
  ·have hN2 : N = 4 := by unfold cnt5 at hN; simp at hN; omega
   subst hN2
   simp only [cond_false]
   refine wpAnyH_ready (rs := [1, 3, 5, 7, 9]) (by kernel_rfl) (by simp) ?_
   refine AllReadyH.cons (o := ⟨_, _, _, _, _, _⟩) rfl (fun K hK => ?_) (AllReadyH.cons (o := ⟨_, _, _, _, _, _⟩) rfl (fun K hK => ?_) (AllReadyH.cons (o := ⟨_, _, _, _, _, _⟩) rfl (fun K hK => ?_) (AllReadyH.cons (o := ⟨_, _, _, _, _, _⟩) rfl (fun K hK => ?_) (AllReadyH.cons (o := ⟨_, _, _, _, _, _⟩) rfl (fun K hK => ?_) AllReadyH.nil))))
   ·refine (if_pos (show Region.wanted _ _ = true by kernel_rfl)).mpr ?_
    refine call_by 32 [] #[] rfl run_mnI _ rfl (implMachineNew0 _) ?_
    rintro e u ⟨rfl, hb⟩
    refine ⟨_, rfl, ?_⟩
    refine hK.out _ _ trivial (fun _ => ?_)
    try simp only [Act.put, List.setIfInBounds_toArray, List.set_cons_zero, List.set_cons_succ]
    exact ih true false false false false gV gN gM gB u rfl (hI.step hb)
   ·refine (if_pos (show Region.wanted _ _ = true by kernel_rfl)).mpr ?_
    refine wp_mkV _ _ k rfl rfl rfl HK.out.1 HK.out.2 (fun u hb hl ho => ?_)
    refine hK.out _ _ trivial (fun _ => ?_)
    try simp only [Act.put, List.setIfInBounds_toArray, List.set_cons_zero, List.set_cons_succ]
    exact ih false true false false false _ gN gM gB u rfl (hI.vot hb hl ho)
   ·refine (if_pos (show Region.wanted _ _ = true by kernel_rfl)).mpr ?_
    refine wp_mkI _ _ k rfl rfl rfl HK.out.1 HK.out.2 (fun u hb hl ho => ?_)
    refine hK.out _ _ trivial (fun _ => ?_)
    try simp only [Act.put, List.setIfInBounds_toArray, List.set_cons_zero, List.set_cons_succ]
    exact ih false false true false false gV _ gM gB u rfl (hI.nex hb hl ho)
   ·refine (if_pos (show Region.wanted _ _ = true by kernel_rfl)).mpr ?_
    refine wp_mkI _ _ k rfl rfl rfl HK.out.1 HK.out.2 (fun u hb hl ho => ?_)
    refine hK.out _ _ trivial (fun _ => ?_)
    try simp only [Act.put, List.setIfInBounds_toArray, List.set_cons_zero, List.set_cons_succ]
    exact ih false false false true false gV gN _ gB u rfl (hI.mat hb hl ho)
   ·refine (if_pos (show Region.wanted _ _ = true by kernel_rfl)).mpr ?_
    refine wp_newN rfl ?_
    refine hK.out _ _ trivial (fun _ => ?_)
    try simp only [Act.put, List.setIfInBounds_toArray, List.set_cons_zero, List.set_cons_succ]
    exact ih false false false false true gV gN gM _ _ rfl hI.var
  ·have hN2 : N = 3 := by unfold cnt5 at hN; simp at hN; omega
   subst hN2
   simp only [cond_true, cond_false]
   refine wpAnyH_ready (rs := [1, 3, 5, 7]) (by kernel_rfl) (by simp) ?_
   refine AllReadyH.cons (o := ⟨_, _, _, _, _, _⟩) rfl (fun K hK => ?_) (AllReadyH.cons (o := ⟨_, _, _, _, _, _⟩) rfl (fun K hK => ?_) (AllReadyH.cons (o := ⟨_, _, _, _, _, _⟩) rfl (fun K hK => ?_) (AllReadyH.cons (o := ⟨_, _, _, _, _, _⟩) rfl (fun K hK => ?_) AllReadyH.nil)))
   ·refine (if_pos (show Region.wanted _ _ = true by kernel_rfl)).mpr ?_
    refine call_by 32 [] #[] rfl run_mnI _ rfl (implMachineNew0 _) ?_
    rintro e u ⟨rfl, hb⟩
    refine ⟨_, rfl, ?_⟩
    refine hK.out _ _ trivial (fun _ => ?_)
    try simp only [Act.put, List.setIfInBounds_toArray, List.set_cons_zero, List.set_cons_succ]
    exact ih true false false false true gV gN gM gB u rfl (hI.step hb)
   ·refine (if_pos (show Region.wanted _ _ = true by kernel_rfl)).mpr ?_
    refine wp_mkV _ _ k rfl rfl rfl HK.out.1 HK.out.2 (fun u hb hl ho => ?_)
    refine hK.out _ _ trivial (fun _ => ?_)
    try simp only [Act.put, List.setIfInBounds_toArray, List.set_cons_zero, List.set_cons_succ]
    exact ih false true false false true _ gN gM gB u rfl (hI.vot hb hl ho)
   ·refine (if_pos (show Region.wanted _ _ = true by kernel_rfl)).mpr ?_
    refine wp_mkI _ _ k rfl rfl rfl HK.out.1 HK.out.2 (fun u hb hl ho => ?_)
    refine hK.out _ _ trivial (fun _ => ?_)
    try simp only [Act.put, List.setIfInBounds_toArray, List.set_cons_zero, List.set_cons_succ]
    exact ih false false true false true gV _ gM gB u rfl (hI.nex hb hl ho)
   ·refine (if_pos (show Region.wanted _ _ = true by kernel_rfl)).mpr ?_
    refine wp_mkI _ _ k rfl rfl rfl HK.out.1 HK.out.2 (fun u hb hl ho => ?_)
    refine hK.out _ _ trivial (fun _ => ?_)
    try simp only [Act.put, List.setIfInBounds_toArray, List.set_cons_zero, List.set_cons_succ]
    exact ih false false false true true gV gN _ gB u rfl (hI.mat hb hl ho)
  ·have hN2 : N = 3 := by unfold cnt5 at hN; simp at hN; omega
   subst hN2
   simp only [cond_true, cond_false]
   refine wpAnyH_ready (rs := [1, 3, 5, 9]) (by kernel_rfl) (by simp) ?_
   refine AllReadyH.cons (o := ⟨_, _, _, _, _, _⟩) rfl (fun K hK => ?_) (AllReadyH.cons (o := ⟨_, _, _, _, _, _⟩) rfl (fun K hK => ?_) (AllReadyH.cons (o := ⟨_, _, _, _, _, _⟩) rfl (fun K hK => ?_) (AllReadyH.cons (o := ⟨_, _, _, _, _, _⟩) rfl (fun K hK => ?_) AllReadyH.nil)))
   ·refine (if_pos (show Region.wanted _ _ = true by kernel_rfl)).mpr ?_
    refine call_by 32 [] #[] rfl run_mnI _ rfl (implMachineNew0 _) ?_
    rintro e u ⟨rfl, hb⟩
    refine ⟨_, rfl, ?_⟩
    refine hK.out _ _ trivial (fun _ => ?_)
    try simp only [Act.put, List.setIfInBounds_toArray, List.set_cons_zero, List.set_cons_succ]
    exact ih true false false true false gV gN gM gB u rfl (hI.step hb)
   ·refine (if_pos (show Region.wanted _ _ = true by kernel_rfl)).mpr ?_
    refine wp_mkV _ _ k rfl rfl rfl HK.out.1 HK.out.2 (fun u hb hl ho => ?_)
    refine hK.out _ _ trivial (fun _ => ?_)
    try simp only [Act.put, List.setIfInBounds_toArray, List.set_cons_zero, List.set_cons_succ]
    exact ih false true false true false _ gN gM gB u rfl (hI.vot hb hl ho)
   ·refine (if_pos (show Region.wanted _ _ = true by kernel_rfl)).mpr ?_
    refine wp_mkI _ _ k rfl rfl rfl HK.out.1 HK.out.2 (fun u hb hl ho => ?_)
    refine hK.out _ _ trivial (fun _ => ?_)
    try simp only [Act.put, List.setIfInBounds_toArray, List.set_cons_zero, List.set_cons_succ]
    exact ih false false true true false gV _ gM gB u rfl (hI.nex hb hl ho)
   ·refine (if_pos (show Region.wanted _ _ = true by kernel_rfl)).mpr ?_
    refine wp_newN rfl ?_
    refine hK.out _ _ trivial (fun _ => ?_)
    try simp only [Act.put, List.setIfInBounds_toArray, List.set_cons_zero, List.set_cons_succ]
    exact ih false false false true true gV gN gM _ _ rfl hI.var
  ·have hN2 : N = 2 := by unfold cnt5 at hN; simp at hN; omega
   subst hN2
   simp only [cond_true, cond_false]
   refine wpAnyH_ready (rs := [1, 3, 5]) (by kernel_rfl) (by simp) ?_
   refine AllReadyH.cons (o := ⟨_, _, _, _, _, _⟩) rfl (fun K hK => ?_) (AllReadyH.cons (o := ⟨_, _, _, _, _, _⟩) rfl (fun K hK => ?_) (AllReadyH.cons (o := ⟨_, _, _, _, _, _⟩) rfl (fun K hK => ?_) AllReadyH.nil))
   ·refine (if_pos (show Region.wanted _ _ = true by kernel_rfl)).mpr ?_
    refine call_by 32 [] #[] rfl run_mnI _ rfl (implMachineNew0 _) ?_
    rintro e u ⟨rfl, hb⟩
    refine ⟨_, rfl, ?_⟩
    refine hK.out _ _ trivial (fun _ => ?_)
    try simp only [Act.put, List.setIfInBounds_toArray, List.set_cons_zero, List.set_cons_succ]
    exact ih true false false true true gV gN gM gB u rfl (hI.step hb)
   ·refine (if_pos (show Region.wanted _ _ = true by kernel_rfl)).mpr ?_
    refine wp_mkV _ _ k rfl rfl rfl HK.out.1 HK.out.2 (fun u hb hl ho => ?_)
    refine hK.out _ _ trivial (fun _ => ?_)
    try simp only [Act.put, List.setIfInBounds_toArray, List.set_cons_zero, List.set_cons_succ]
    exact ih false true false true true _ gN gM gB u rfl (hI.vot hb hl ho)
   ·refine (if_pos (show Region.wanted _ _ = true by kernel_rfl)).mpr ?_
    refine wp_mkI _ _ k rfl rfl rfl HK.out.1 HK.out.2 (fun u hb hl ho => ?_)
    refine hK.out _ _ trivial (fun _ => ?_)
    try simp only [Act.put, List.setIfInBounds_toArray, List.set_cons_zero, List.set_cons_succ]
    exact ih false false true true true gV _ gM gB u rfl (hI.nex hb hl ho)
  ·have hN2 : N = 3 := by unfold cnt5 at hN; simp at hN; omega
   subst hN2
   simp only [cond_true, cond_false]
   refine wpAnyH_ready (rs := [1, 3, 7, 9]) (by kernel_rfl) (by simp) ?_
   refine AllReadyH.cons (o := ⟨_, _, _, _, _, _⟩) rfl (fun K hK => ?_) (AllReadyH.cons (o := ⟨_, _, _, _, _, _⟩) rfl (fun K hK => ?_) (AllReadyH.cons (o := ⟨_, _, _, _, _, _⟩) rfl (fun K hK => ?_) (AllReadyH.cons (o := ⟨_, _, _, _, _, _⟩) rfl (fun K hK => ?_) AllReadyH.nil)))
   ·refine (if_pos (show Region.wanted _ _ = true by kernel_rfl)).mpr ?_
    refine call_by 32 [] #[] rfl run_mnI _ rfl (implMachineNew0 _) ?_
    rintro e u ⟨rfl, hb⟩
    refine ⟨_, rfl, ?_⟩
    refine hK.out _ _ trivial (fun _ => ?_)
    try simp only [Act.put, List.setIfInBounds_toArray, List.set_cons_zero, List.set_cons_succ]
    exact ih true false true false false gV gN gM gB u rfl (hI.step hb)
   ·refine (if_pos (show Region.wanted _ _ = true by kernel_rfl)).mpr ?_
    refine wp_mkV _ _ k rfl rfl rfl HK.out.1 HK.out.2 (fun u hb hl ho => ?_)
    refine hK.out _ _ trivial (fun _ => ?_)
    try simp only [Act.put, List.setIfInBounds_toArray, List.set_cons_zero, List.set_cons_succ]
    exact ih false true true false false _ gN gM gB u rfl (hI.vot hb hl ho)
   ·refine (if_pos (show Region.wanted _ _ = true by kernel_rfl)).mpr ?_
    refine wp_mkI _ _ k rfl rfl rfl HK.out.1 HK.out.2 (fun u hb hl ho => ?_)
    refine hK.out _ _ trivial (fun _ => ?_)
    try simp only [Act.put, List.setIfInBounds_toArray, List.set_cons_zero, List.set_cons_succ]
    exact ih false false true true false gV gN _ gB u rfl (hI.mat hb hl ho)
   ·refine (if_pos (show Region.wanted _ _ = true by kernel_rfl)).mpr ?_
    refine wp_newN rfl ?_
    refine hK.out _ _ trivial (fun _ => ?_)
    try simp only [Act.put, List.setIfInBounds_toArray, List.set_cons_zero, List.set_cons_succ]
    exact ih false false true false true gV gN gM _ _ rfl hI.var
  ·have hN2 : N = 2 := by unfold cnt5 at hN; simp at hN; omega
   subst hN2
   simp only [cond_true, cond_false]
   refine wpAnyH_ready (rs := [1, 3, 7]) (by kernel_rfl) (by simp) ?_
   refine AllReadyH.cons (o := ⟨_, _, _, _, _, _⟩) rfl (fun K hK => ?_) (AllReadyH.cons (o := ⟨_, _, _, _, _, _⟩) rfl (fun K hK => ?_) (AllReadyH.cons (o := ⟨_, _, _, _, _, _⟩) rfl (fun K hK => ?_) AllReadyH.nil))
   ·refine (if_pos (show Region.wanted _ _ = true by kernel_rfl)).mpr ?_
    refine call_by 32 [] #[] rfl run_mnI _ rfl (implMachineNew0 _) ?_
    rintro e u ⟨rfl, hb⟩
    refine ⟨_, rfl, ?_⟩
    refine hK.out _ _ trivial (fun _ => ?_)
    try simp only [Act.put, List.setIfInBounds_toArray, List.set_cons_zero, List.set_cons_succ]
    exact ih true false true false true gV gN gM gB u rfl (hI.step hb)
   ·refine (if_pos (show Region.wanted _ _ = true by kernel_rfl)).mpr ?_
    refine wp_mkV _ _ k rfl rfl rfl HK.out.1 HK.out.2 (fun u hb hl ho => ?_)
    refine hK.out _ _ trivial (fun _ => ?_)
    try simp only [Act.put, List.setIfInBounds_toArray, List.set_cons_zero, List.set_cons_succ]
    exact ih false true true false true _ gN gM gB u rfl (hI.vot hb hl ho)
   ·refine (if_pos (show Region.wanted _ _ = true by kernel_rfl)).mpr ?_
    refine wp_mkI _ _ k rfl rfl rfl HK.out.1 HK.out.2 (fun u hb hl ho => ?_)
    refine hK.out _ _ trivial (fun _ => ?_)
    try simp only [Act.put, List.setIfInBounds_toArray, List.set_cons_zero, List.set_cons_succ]
    exact ih false false true true true gV gN _ gB u rfl (hI.mat hb hl ho)
  ·have hN2 : N = 2 := by unfold cnt5 at hN; simp at hN; omega
   subst hN2
   simp only [cond_true, cond_false]
   refine wpAnyH_ready (rs := [1, 3, 9]) (by kernel_rfl) (by simp) ?_
   refine AllReadyH.cons (o := ⟨_, _, _, _, _, _⟩) rfl (fun K hK => ?_) (AllReadyH.cons (o := ⟨_, _, _, _, _, _⟩) rfl (fun K hK => ?_) (AllReadyH.cons (o := ⟨_, _, _, _, _, _⟩) rfl (fun K hK => ?_) AllReadyH.nil))
   ·refine (if_pos (show Region.wanted _ _ = true by kernel_rfl)).mpr ?_
    refine call_by 32 [] #[] rfl run_mnI _ rfl (implMachineNew0 _) ?_
    rintro e u ⟨rfl, hb⟩
    refine ⟨_, rfl, ?_⟩
    refine hK.out _ _ trivial (fun _ => ?_)
    try simp only [Act.put, List.setIfInBounds_toArray, List.set_cons_zero, List.set_cons_succ]
    exact ih true false true true false gV gN gM gB u rfl (hI.step hb)
   ·refine (if_pos (show Region.wanted _ _ = true by kernel_rfl)).mpr ?_
    refine wp_mkV _ _ k rfl rfl rfl HK.out.1 HK.out.2 (fun u hb hl ho => ?_)
    refine hK.out _ _ trivial (fun _ => ?_)
    try simp only [Act.put, List.setIfInBounds_toArray, List.set_cons_zero, List.set_cons_succ]
    exact ih false true true true false _ gN gM gB u rfl (hI.vot hb hl ho)
   ·refine (if_pos (show Region.wanted _ _ = true by kernel_rfl)).mpr ?_
    refine wp_newN rfl ?_
    refine hK.out _ _ trivial (fun _ => ?_)
    try simp only [Act.put, List.setIfInBounds_toArray, List.set_cons_zero, List.set_cons_succ]
    exact ih false false true true true gV gN gM _ _ rfl hI.var
  ·have hN2 : N = 1 := by unfold cnt5 at hN; simp at hN; omega
   subst hN2
   simp only [cond_true, cond_false]
   refine wpAnyH_ready (rs := [1, 3]) (by kernel_rfl) (by simp) ?_
   refine AllReadyH.cons (o := ⟨_, _, _, _, _, _⟩) rfl (fun K hK => ?_) (AllReadyH.cons (o := ⟨_, _, _, _, _, _⟩) rfl (fun K hK => ?_) AllReadyH.nil)
   ·refine (if_pos (show Region.wanted _ _ = true by kernel_rfl)).mpr ?_
    refine call_by 32 [] #[] rfl run_mnI _ rfl (implMachineNew0 _) ?_
    rintro e u ⟨rfl, hb⟩
    refine ⟨_, rfl, ?_⟩
    refine hK.out _ _ trivial (fun _ => ?_)
    try simp only [Act.put, List.setIfInBounds_toArray, List.set_cons_zero, List.set_cons_succ]
    exact ih true false true true true gV gN gM gB u rfl (hI.step hb)
   ·refine (if_pos (show Region.wanted _ _ = true by kernel_rfl)).mpr ?_
    refine wp_mkV _ _ k rfl rfl rfl HK.out.1 HK.out.2 (fun u hb hl ho => ?_)
    refine hK.out _ _ trivial (fun _ => ?_)
    try simp only [Act.put, List.setIfInBounds_toArray, List.set_cons_zero, List.set_cons_succ]
    exact ih false true true true true _ gN gM gB u rfl (hI.vot hb hl ho)
  ·have hN2 : N = 3 := by unfold cnt5 at hN; simp at hN; omega
   subst hN2
   simp only [cond_true, cond_false]
   refine wpAnyH_ready (rs := [1, 5, 7, 9]) (by kernel_rfl) (by simp) ?_
   refine AllReadyH.cons (o := ⟨_, _, _, _, _, _⟩) rfl (fun K hK => ?_) (AllReadyH.cons (o := ⟨_, _, _, _, _, _⟩) rfl (fun K hK => ?_) (AllReadyH.cons (o := ⟨_, _, _, _, _, _⟩) rfl (fun K hK => ?_) (AllReadyH.cons (o := ⟨_, _, _, _, _, _⟩) rfl (fun K hK => ?_) AllReadyH.nil)))
   ·refine (if_pos (show Region.wanted _ _ = true by kernel_rfl)).mpr ?_
    refine call_by 32 [] #[] rfl run_mnI _ rfl (implMachineNew0 _) ?_
    rintro e u ⟨rfl, hb⟩
    refine ⟨_, rfl, ?_⟩
    refine hK.out _ _ trivial (fun _ => ?_)
    try simp only [Act.put, List.setIfInBounds_toArray, List.set_cons_zero, List.set_cons_succ]
    exact ih true true false false false gV gN gM gB u rfl (hI.step hb)
   ·refine (if_pos (show Region.wanted _ _ = true by kernel_rfl)).mpr ?_
    refine wp_mkI _ _ k rfl rfl rfl HK.out.1 HK.out.2 (fun u hb hl ho => ?_)
    refine hK.out _ _ trivial (fun _ => ?_)
    try simp only [Act.put, List.setIfInBounds_toArray, List.set_cons_zero, List.set_cons_succ]
    exact ih false true true false false gV _ gM gB u rfl (hI.nex hb hl ho)
   ·refine (if_pos (show Region.wanted _ _ = true by kernel_rfl)).mpr ?_
    refine wp_mkI _ _ k rfl rfl rfl HK.out.1 HK.out.2 (fun u hb hl ho => ?_)
    refine hK.out _ _ trivial (fun _ => ?_)
    try simp only [Act.put, List.setIfInBounds_toArray, List.set_cons_zero, List.set_cons_succ]
    exact ih false true false true false gV gN _ gB u rfl (hI.mat hb hl ho)
   ·refine (if_pos (show Region.wanted _ _ = true by kernel_rfl)).mpr ?_
    refine wp_newN rfl ?_
    refine hK.out _ _ trivial (fun _ => ?_)
    try simp only [Act.put, List.setIfInBounds_toArray, List.set_cons_zero, List.set_cons_succ]
    exact ih false true false false true gV gN gM _ _ rfl hI.var
  ·have hN2 : N = 2 := by unfold cnt5 at hN; simp at hN; omega
   subst hN2
   simp only [cond_true, cond_false]
   refine wpAnyH_ready (rs := [1, 5, 7]) (by kernel_rfl) (by simp) ?_
   refine AllReadyH.cons (o := ⟨_, _, _, _, _, _⟩) rfl (fun K hK => ?_) (AllReadyH.cons (o := ⟨_, _, _, _, _, _⟩) rfl (fun K hK => ?_) (AllReadyH.cons (o := ⟨_, _, _, _, _, _⟩) rfl (fun K hK => ?_) AllReadyH.nil))
   ·refine (if_pos (show Region.wanted _ _ = true by kernel_rfl)).mpr ?_
    refine call_by 32 [] #[] rfl run_mnI _ rfl (implMachineNew0 _) ?_
    rintro e u ⟨rfl, hb⟩
    refine ⟨_, rfl, ?_⟩
    refine hK.out _ _ trivial (fun _ => ?_)
    try simp only [Act.put, List.setIfInBounds_toArray, List.set_cons_zero, List.set_cons_succ]
    exact ih true true false false true gV gN gM gB u rfl (hI.step hb)
   ·refine (if_pos (show Region.wanted _ _ = true by kernel_rfl)).mpr ?_
    refine wp_mkI _ _ k rfl rfl rfl HK.out.1 HK.out.2 (fun u hb hl ho => ?_)
    refine hK.out _ _ trivial (fun _ => ?_)
    try simp only [Act.put, List.setIfInBounds_toArray, List.set_cons_zero, List.set_cons_succ]
    exact ih false true true false true gV _ gM gB u rfl (hI.nex hb hl ho)
   ·refine (if_pos (show Region.wanted _ _ = true by kernel_rfl)).mpr ?_
    refine wp_mkI _ _ k rfl rfl rfl HK.out.1 HK.out.2 (fun u hb hl ho => ?_)
    refine hK.out _ _ trivial (fun _ => ?_)
    try simp only [Act.put, List.setIfInBounds_toArray, List.set_cons_zero, List.set_cons_succ]
    exact ih false true false true true gV gN _ gB u rfl (hI.mat hb hl ho)
  ·have hN2 : N = 2 := by unfold cnt5 at hN; simp at hN; omega
   subst hN2
   simp only [cond_true, cond_false]
   refine wpAnyH_ready (rs := [1, 5, 9]) (by kernel_rfl) (by simp) ?_
   refine AllReadyH.cons (o := ⟨_, _, _, _, _, _⟩) rfl (fun K hK => ?_) (AllReadyH.cons (o := ⟨_, _, _, _, _, _⟩) rfl (fun K hK => ?_) (AllReadyH.cons (o := ⟨_, _, _, _, _, _⟩) rfl (fun K hK => ?_) AllReadyH.nil))
   ·refine (if_pos (show Region.wanted _ _ = true by kernel_rfl)).mpr ?_
    refine call_by 32 [] #[] rfl run_mnI _ rfl (implMachineNew0 _) ?_
    rintro e u ⟨rfl, hb⟩
    refine ⟨_, rfl, ?_⟩
    refine hK.out _ _ trivial (fun _ => ?_)
    try simp only [Act.put, List.setIfInBounds_toArray, List.set_cons_zero, List.set_cons_succ]
    exact ih true true false true false gV gN gM gB u rfl (hI.step hb)
   ·refine (if_pos (show Region.wanted _ _ = true by kernel_rfl)).mpr ?_
    refine wp_mkI _ _ k rfl rfl rfl HK.out.1 HK.out.2 (fun u hb hl ho => ?_)
    refine hK.out _ _ trivial (fun _ => ?_)
    try simp only [Act.put, List.setIfInBounds_toArray, List.set_cons_zero, List.set_cons_succ]
    exact ih false true true true false gV _ gM gB u rfl (hI.nex hb hl ho)
   ·refine (if_pos (show Region.wanted _ _ = true by kernel_rfl)).mpr ?_
    refine wp_newN rfl ?_
    refine hK.out _ _ trivial (fun _ => ?_)
    try simp only [Act.put, List.setIfInBounds_toArray, List.set_cons_zero, List.set_cons_succ]
    exact ih false true false true true gV gN gM _ _ rfl hI.var
  ·have hN2 : N = 1 := by unfold cnt5 at hN; simp at hN; omega
   subst hN2
   simp only [cond_true, cond_false]
   refine wpAnyH_ready (rs := [1, 5]) (by kernel_rfl) (by simp) ?_
   refine AllReadyH.cons (o := ⟨_, _, _, _, _, _⟩) rfl (fun K hK => ?_) (AllReadyH.cons (o := ⟨_, _, _, _, _, _⟩) rfl (fun K hK => ?_) AllReadyH.nil)
   ·refine (if_pos (show Region.wanted _ _ = true by kernel_rfl)).mpr ?_
    refine call_by 32 [] #[] rfl run_mnI _ rfl (implMachineNew0 _) ?_
    rintro e u ⟨rfl, hb⟩
    refine ⟨_, rfl, ?_⟩
    refine hK.out _ _ trivial (fun _ => ?_)
    try simp only [Act.put, List.setIfInBounds_toArray, List.set_cons_zero, List.set_cons_succ]
    exact ih true true false true true gV gN gM gB u rfl (hI.step hb)
   ·refine (if_pos (show Region.wanted _ _ = true by kernel_rfl)).mpr ?_
    refine wp_mkI _ _ k rfl rfl rfl HK.out.1 HK.out.2 (fun u hb hl ho => ?_)
    refine hK.out _ _ trivial (fun _ => ?_)
    try simp only [Act.put, List.setIfInBounds_toArray, List.set_cons_zero, List.set_cons_succ]
    exact ih false true true true true gV _ gM gB u rfl (hI.nex hb hl ho)
  ·have hN2 : N = 2 := by unfold cnt5 at hN; simp at hN; omega
   subst hN2
   simp only [cond_true, cond_false]
   refine wpAnyH_ready (rs := [1, 7, 9]) (by kernel_rfl) (by simp) ?_
   refine AllReadyH.cons (o := ⟨_, _, _, _, _, _⟩) rfl (fun K hK => ?_) (AllReadyH.cons (o := ⟨_, _, _, _, _, _⟩) rfl (fun K hK => ?_) (AllReadyH.cons (o := ⟨_, _, _, _, _, _⟩) rfl (fun K hK => ?_) AllReadyH.nil))
   ·refine (if_pos (show Region.wanted _ _ = true by kernel_rfl)).mpr ?_
    refine call_by 32 [] #[] rfl run_mnI _ rfl (implMachineNew0 _) ?_
    rintro e u ⟨rfl, hb⟩
    refine ⟨_, rfl, ?_⟩
    refine hK.out _ _ trivial (fun _ => ?_)
    try simp only [Act.put, List.setIfInBounds_toArray, List.set_cons_zero, List.set_cons_succ]
    exact ih true true true false false gV gN gM gB u rfl (hI.step hb)
   ·refine (if_pos (show Region.wanted _ _ = true by kernel_rfl)).mpr ?_
    refine wp_mkI _ _ k rfl rfl rfl HK.out.1 HK.out.2 (fun u hb hl ho => ?_)
    refine hK.out _ _ trivial (fun _ => ?_)
    try simp only [Act.put, List.setIfInBounds_toArray, List.set_cons_zero, List.set_cons_succ]
    exact ih false true true true false gV gN _ gB u rfl (hI.mat hb hl ho)
   ·refine (if_pos (show Region.wanted _ _ = true by kernel_rfl)).mpr ?_
    refine wp_newN rfl ?_
    refine hK.out _ _ trivial (fun _ => ?_)
    try simp only [Act.put, List.setIfInBounds_toArray, List.set_cons_zero, List.set_cons_succ]
    exact ih false true true false true gV gN gM _ _ rfl hI.var
  ·have hN2 : N = 1 := by unfold cnt5 at hN; simp at hN; omega
   subst hN2
   simp only [cond_true, cond_false]
   refine wpAnyH_ready (rs := [1, 7]) (by kernel_rfl) (by simp) ?_
   refine AllReadyH.cons (o := ⟨_, _, _, _, _, _⟩) rfl (fun K hK => ?_) (AllReadyH.cons (o := ⟨_, _, _, _, _, _⟩) rfl (fun K hK => ?_) AllReadyH.nil)
   ·refine (if_pos (show Region.wanted _ _ = true by kernel_rfl)).mpr ?_
    refine call_by 32 [] #[] rfl run_mnI _ rfl (implMachineNew0 _) ?_
    rintro e u ⟨rfl, hb⟩
    refine ⟨_, rfl, ?_⟩
    refine hK.out _ _ trivial (fun _ => ?_)
    try simp only [Act.put, List.setIfInBounds_toArray, List.set_cons_zero, List.set_cons_succ]
    exact ih true true true false true gV gN gM gB u rfl (hI.step hb)
   ·refine (if_pos (show Region.wanted _ _ = true by kernel_rfl)).mpr ?_
    refine wp_mkI _ _ k rfl rfl rfl HK.out.1 HK.out.2 (fun u hb hl ho => ?_)
    refine hK.out _ _ trivial (fun _ => ?_)
    try simp only [Act.put, List.setIfInBounds_toArray, List.set_cons_zero, List.set_cons_succ]
    exact ih false true true true true gV gN _ gB u rfl (hI.mat hb hl ho)
  ·have hN2 : N = 1 := by unfold cnt5 at hN; simp at hN; omega
   subst hN2
   simp only [cond_true, cond_false]
   refine wpAnyH_ready (rs := [1, 9]) (by kernel_rfl) (by simp) ?_
   refine AllReadyH.cons (o := ⟨_, _, _, _, _, _⟩) rfl (fun K hK => ?_) (AllReadyH.cons (o := ⟨_, _, _, _, _, _⟩) rfl (fun K hK => ?_) AllReadyH.nil)
   ·refine (if_pos (show Region.wanted _ _ = true by kernel_rfl)).mpr ?_
    refine call_by 32 [] #[] rfl run_mnI _ rfl (implMachineNew0 _) ?_
    rintro e u ⟨rfl, hb⟩
    refine ⟨_, rfl, ?_⟩
    refine hK.out _ _ trivial (fun _ => ?_)
    try simp only [Act.put, List.setIfInBounds_toArray, List.set_cons_zero, List.set_cons_succ]
    exact ih true true true true false gV gN gM gB u rfl (hI.step hb)
   ·refine (if_pos (show Region.wanted _ _ = true by kernel_rfl)).mpr ?_
    refine wp_newN rfl ?_
    refine hK.out _ _ trivial (fun _ => ?_)
    try simp only [Act.put, List.setIfInBounds_toArray, List.set_cons_zero, List.set_cons_succ]
    exact ih false true true true true gV gN gM _ _ rfl hI.var
  ·have hN2 : N = 0 := by unfold cnt5 at hN; simp at hN; omega
   subst hN2
   simp only [cond_true, cond_false]
   refine wpAnyH_ready (rs := [1]) (by kernel_rfl) (by simp) ?_
   refine AllReadyH.cons (o := ⟨_, _, _, _, _, _⟩) rfl (fun K hK => ?_) AllReadyH.nil
   ·refine (if_pos (show Region.wanted _ _ = true by kernel_rfl)).mpr ?_
    refine call_by 32 [] #[] rfl run_mnI _ rfl (implMachineNew0 _) ?_
    rintro e u ⟨rfl, hb⟩
    refine ⟨_, rfl, ?_⟩
    refine hK.out _ _ trivial (fun _ => ?_)
    try simp only [Act.put, List.setIfInBounds_toArray, List.set_cons_zero, List.set_cons_succ]
    exact ih true true true true true gV gN gM gB u rfl (hI.step hb)
  ·have hN2 : N = 3 := by unfold cnt5 at hN; simp at hN; omega
   subst hN2
   simp only [cond_true, cond_false]
   refine wpAnyH_ready (rs := [3, 5, 7, 9]) (by kernel_rfl) (by simp) ?_
   refine AllReadyH.cons (o := ⟨_, _, _, _, _, _⟩) rfl (fun K hK => ?_) (AllReadyH.cons (o := ⟨_, _, _, _, _, _⟩) rfl (fun K hK => ?_) (AllReadyH.cons (o := ⟨_, _, _, _, _, _⟩) rfl (fun K hK => ?_) (AllReadyH.cons (o := ⟨_, _, _, _, _, _⟩) rfl (fun K hK => ?_) AllReadyH.nil)))
   ·refine (if_pos (show Region.wanted _ _ = true by kernel_rfl)).mpr ?_
    refine wp_mkV _ _ k rfl rfl rfl HK.out.1 HK.out.2 (fun u hb hl ho => ?_)
    refine hK.out _ _ trivial (fun _ => ?_)
    try simp only [Act.put, List.setIfInBounds_toArray, List.set_cons_zero, List.set_cons_succ]
    exact ih true true false false false _ gN gM gB u rfl (hI.vot hb hl ho)
   ·refine (if_pos (show Region.wanted _ _ = true by kernel_rfl)).mpr ?_
    refine wp_mkI _ _ k rfl rfl rfl HK.out.1 HK.out.2 (fun u hb hl ho => ?_)
    refine hK.out _ _ trivial (fun _ => ?_)
    try simp only [Act.put, List.setIfInBounds_toArray, List.set_cons_zero, List.set_cons_succ]
    exact ih true false true false false gV _ gM gB u rfl (hI.nex hb hl ho)
   ·refine (if_pos (show Region.wanted _ _ = true by kernel_rfl)).mpr ?_
    refine wp_mkI _ _ k rfl rfl rfl HK.out.1 HK.out.2 (fun u hb hl ho => ?_)
    refine hK.out _ _ trivial (fun _ => ?_)
    try simp only [Act.put, List.setIfInBounds_toArray, List.set_cons_zero, List.set_cons_succ]
    exact ih true false false true false gV gN _ gB u rfl (hI.mat hb hl ho)
   ·refine (if_pos (show Region.wanted _ _ = true by kernel_rfl)).mpr ?_
    refine wp_newN rfl ?_
    refine hK.out _ _ trivial (fun _ => ?_)
    try simp only [Act.put, List.setIfInBounds_toArray, List.set_cons_zero, List.set_cons_succ]
    exact ih true false false false true gV gN gM _ _ rfl hI.var
  ·have hN2 : N = 2 := by unfold cnt5 at hN; simp at hN; omega
   subst hN2
   simp only [cond_true, cond_false]
   refine wpAnyH_ready (rs := [3, 5, 7]) (by kernel_rfl) (by simp) ?_
   refine AllReadyH.cons (o := ⟨_, _, _, _, _, _⟩) rfl (fun K hK => ?_) (AllReadyH.cons (o := ⟨_, _, _, _, _, _⟩) rfl (fun K hK => ?_) (AllReadyH.cons (o := ⟨_, _, _, _, _, _⟩) rfl (fun K hK => ?_) AllReadyH.nil))
   ·refine (if_pos (show Region.wanted _ _ = true by kernel_rfl)).mpr ?_
    refine wp_mkV _ _ k rfl rfl rfl HK.out.1 HK.out.2 (fun u hb hl ho => ?_)
    refine hK.out _ _ trivial (fun _ => ?_)
    try simp only [Act.put, List.setIfInBounds_toArray, List.set_cons_zero, List.set_cons_succ]
    exact ih true true false false true _ gN gM gB u rfl (hI.vot hb hl ho)
   ·refine (if_pos (show Region.wanted _ _ = true by kernel_rfl)).mpr ?_
    refine wp_mkI _ _ k rfl rfl rfl HK.out.1 HK.out.2 (fun u hb hl ho => ?_)
    refine hK.out _ _ trivial (fun _ => ?_)
    try simp only [Act.put, List.setIfInBounds_toArray, List.set_cons_zero, List.set_cons_succ]
    exact ih true false true false true gV _ gM gB u rfl (hI.nex hb hl ho)
   ·refine (if_pos (show Region.wanted _ _ = true by kernel_rfl)).mpr ?_
    refine wp_mkI _ _ k rfl rfl rfl HK.out.1 HK.out.2 (fun u hb hl ho => ?_)
    refine hK.out _ _ trivial (fun _ => ?_)
    try simp only [Act.put, List.setIfInBounds_toArray, List.set_cons_zero, List.set_cons_succ]
    exact ih true false false true true gV gN _ gB u rfl (hI.mat hb hl ho)
  ·have hN2 : N = 2 := by unfold cnt5 at hN; simp at hN; omega
   subst hN2
   simp only [cond_true, cond_false]
   refine wpAnyH_ready (rs := [3, 5, 9]) (by kernel_rfl) (by simp) ?_
   refine AllReadyH.cons (o := ⟨_, _, _, _, _, _⟩) rfl (fun K hK => ?_) (AllReadyH.cons (o := ⟨_, _, _, _, _, _⟩) rfl (fun K hK => ?_) (AllReadyH.cons (o := ⟨_, _, _, _, _, _⟩) rfl (fun K hK => ?_) AllReadyH.nil))
   ·refine (if_pos (show Region.wanted _ _ = true by kernel_rfl)).mpr ?_
    refine wp_mkV _ _ k rfl rfl rfl HK.out.1 HK.out.2 (fun u hb hl ho => ?_)
    refine hK.out _ _ trivial (fun _ => ?_)
    try simp only [Act.put, List.setIfInBounds_toArray, List.set_cons_zero, List.set_cons_succ]
    exact ih true true false true false _ gN gM gB u rfl (hI.vot hb hl ho)
   ·refine (if_pos (show Region.wanted _ _ = true by kernel_rfl)).mpr ?_
    refine wp_mkI _ _ k rfl rfl rfl HK.out.1 HK.out.2 (fun u hb hl ho => ?_)
    refine hK.out _ _ trivial (fun _ => ?_)
    try simp only [Act.put, List.setIfInBounds_toArray, List.set_cons_zero, List.set_cons_succ]
    exact ih true false true true false gV _ gM gB u rfl (hI.nex hb hl ho)
   ·refine (if_pos (show Region.wanted _ _ = true by kernel_rfl)).mpr ?_
    refine wp_newN rfl ?_
    refine hK.out _ _ trivial (fun _ => ?_)
    try simp only [Act.put, List.setIfInBounds_toArray, List.set_cons_zero, List.set_cons_succ]
    exact ih true false false true true gV gN gM _ _ rfl hI.var
  ·have hN2 : N = 1 := by unfold cnt5 at hN; simp at hN; omega
   subst hN2
   simp only [cond_true, cond_false]
   refine wpAnyH_ready (rs := [3, 5]) (by kernel_rfl) (by simp) ?_
   refine AllReadyH.cons (o := ⟨_, _, _, _, _, _⟩) rfl (fun K hK => ?_) (AllReadyH.cons (o := ⟨_, _, _, _, _, _⟩) rfl (fun K hK => ?_) AllReadyH.nil)
   ·refine (if_pos (show Region.wanted _ _ = true by kernel_rfl)).mpr ?_
    refine wp_mkV _ _ k rfl rfl rfl HK.out.1 HK.out.2 (fun u hb hl ho => ?_)
    refine hK.out _ _ trivial (fun _ => ?_)
    try simp only [Act.put, List.setIfInBounds_toArray, List.set_cons_zero, List.set_cons_succ]
    exact ih true true false true true _ gN gM gB u rfl (hI.vot hb hl ho)
   ·refine (if_pos (show Region.wanted _ _ = true by kernel_rfl)).mpr ?_
    refine wp_mkI _ _ k rfl rfl rfl HK.out.1 HK.out.2 (fun u hb hl ho => ?_)
    refine hK.out _ _ trivial (fun _ => ?_)
    try simp only [Act.put, List.setIfInBounds_toArray, List.set_cons_zero, List.set_cons_succ]
    exact ih true false true true true gV _ gM gB u rfl (hI.nex hb hl ho)
  ·have hN2 : N = 2 := by unfold cnt5 at hN; simp at hN; omega
   subst hN2
   simp only [cond_true, cond_false]
   refine wpAnyH_ready (rs := [3, 7, 9]) (by kernel_rfl) (by simp) ?_
   refine AllReadyH.cons (o := ⟨_, _, _, _, _, _⟩) rfl (fun K hK => ?_) (AllReadyH.cons (o := ⟨_, _, _, _, _, _⟩) rfl (fun K hK => ?_) (AllReadyH.cons (o := ⟨_, _, _, _, _, _⟩) rfl (fun K hK => ?_) AllReadyH.nil))
   ·refine (if_pos (show Region.wanted _ _ = true by kernel_rfl)).mpr ?_
    refine wp_mkV _ _ k rfl rfl rfl HK.out.1 HK.out.2 (fun u hb hl ho => ?_)
    refine hK.out _ _ trivial (fun _ => ?_)
    try simp only [Act.put, List.setIfInBounds_toArray, List.set_cons_zero, List.set_cons_succ]
    exact ih true true true false false _ gN gM gB u rfl (hI.vot hb hl ho)
   ·refine (if_pos (show Region.wanted _ _ = true by kernel_rfl)).mpr ?_
    refine wp_mkI _ _ k rfl rfl rfl HK.out.1 HK.out.2 (fun u hb hl ho => ?_)
    refine hK.out _ _ trivial (fun _ => ?_)
    try simp only [Act.put, List.setIfInBounds_toArray, List.set_cons_zero, List.set_cons_succ]
    exact ih true false true true false gV gN _ gB u rfl (hI.mat hb hl ho)
   ·refine (if_pos (show Region.wanted _ _ = true by kernel_rfl)).mpr ?_
    refine wp_newN rfl ?_
    refine hK.out _ _ trivial (fun _ => ?_)
    try simp only [Act.put, List.setIfInBounds_toArray, List.set_cons_zero, List.set_cons_succ]
    exact ih true false true false true gV gN gM _ _ rfl hI.var
  ·have hN2 : N = 1 := by unfold cnt5 at hN; simp at hN; omega
   subst hN2
   simp only [cond_true, cond_false]
   refine wpAnyH_ready (rs := [3, 7]) (by kernel_rfl) (by simp) ?_
   refine AllReadyH.cons (o := ⟨_, _, _, _, _, _⟩) rfl (fun K hK => ?_) (AllReadyH.cons (o := ⟨_, _, _, _, _, _⟩) rfl (fun K hK => ?_) AllReadyH.nil)
   ·refine (if_pos (show Region.wanted _ _ = true by kernel_rfl)).mpr ?_
    refine wp_mkV _ _ k rfl rfl rfl HK.out.1 HK.out.2 (fun u hb hl ho => ?_)
    refine hK.out _ _ trivial (fun _ => ?_)
    try simp only [Act.put, List.setIfInBounds_toArray, List.set_cons_zero, List.set_cons_succ]
    exact ih true true true false true _ gN gM gB u rfl (hI.vot hb hl ho)
   ·refine (if_pos (show Region.wanted _ _ = true by kernel_rfl)).mpr ?_
    refine wp_mkI _ _ k rfl rfl rfl HK.out.1 HK.out.2 (fun u hb hl ho => ?_)
    refine hK.out _ _ trivial (fun _ => ?_)
    try simp only [Act.put, List.setIfInBounds_toArray, List.set_cons_zero, List.set_cons_succ]
    exact ih true false true true true gV gN _ gB u rfl (hI.mat hb hl ho)
  ·have hN2 : N = 1 := by unfold cnt5 at hN; simp at hN; omega
   subst hN2
   simp only [cond_true, cond_false]
   refine wpAnyH_ready (rs := [3, 9]) (by kernel_rfl) (by simp) ?_
   refine AllReadyH.cons (o := ⟨_, _, _, _, _, _⟩) rfl (fun K hK => ?_) (AllReadyH.cons (o := ⟨_, _, _, _, _, _⟩) rfl (fun K hK => ?_) AllReadyH.nil)
   ·refine (if_pos (show Region.wanted _ _ = true by kernel_rfl)).mpr ?_
    refine wp_mkV _ _ k rfl rfl rfl HK.out.1 HK.out.2 (fun u hb hl ho => ?_)
    refine hK.out _ _ trivial (fun _ => ?_)
    try simp only [Act.put, List.setIfInBounds_toArray, List.set_cons_zero, List.set_cons_succ]
    exact ih true true true true false _ gN gM gB u rfl (hI.vot hb hl ho)
   ·refine (if_pos (show Region.wanted _ _ = true by kernel_rfl)).mpr ?_
    refine wp_newN rfl ?_
    refine hK.out _ _ trivial (fun _ => ?_)
    try simp only [Act.put, List.setIfInBounds_toArray, List.set_cons_zero, List.set_cons_succ]
    exact ih true false true true true gV gN gM _ _ rfl hI.var
  ·have hN2 : N = 0 := by unfold cnt5 at hN; simp at hN; omega
   subst hN2
   simp only [cond_true, cond_false]
   refine wpAnyH_ready (rs := [3]) (by kernel_rfl) (by simp) ?_
   refine AllReadyH.cons (o := ⟨_, _, _, _, _, _⟩) rfl (fun K hK => ?_) AllReadyH.nil
   ·refine (if_pos (show Region.wanted _ _ = true by kernel_rfl)).mpr ?_
    refine wp_mkV _ _ k rfl rfl rfl HK.out.1 HK.out.2 (fun u hb hl ho => ?_)
    refine hK.out _ _ trivial (fun _ => ?_)
    try simp only [Act.put, List.setIfInBounds_toArray, List.set_cons_zero, List.set_cons_succ]
    exact ih true true true true true _ gN gM gB u rfl (hI.vot hb hl ho)
  ·have hN2 : N = 2 := by unfold cnt5 at hN; simp at hN; omega
   subst hN2
   simp only [cond_true, cond_false]
   refine wpAnyH_ready (rs := [5, 7, 9]) (by kernel_rfl) (by simp) ?_
   refine AllReadyH.cons (o := ⟨_, _, _, _, _, _⟩) rfl (fun K hK => ?_) (AllReadyH.cons (o := ⟨_, _, _, _, _, _⟩) rfl (fun K hK => ?_) (AllReadyH.cons (o := ⟨_, _, _, _, _, _⟩) rfl (fun K hK => ?_) AllReadyH.nil))
   ·refine (if_pos (show Region.wanted _ _ = true by kernel_rfl)).mpr ?_
    refine wp_mkI _ _ k rfl rfl rfl HK.out.1 HK.out.2 (fun u hb hl ho => ?_)
    refine hK.out _ _ trivial (fun _ => ?_)
    try simp only [Act.put, List.setIfInBounds_toArray, List.set_cons_zero, List.set_cons_succ]
    exact ih true true true false false gV _ gM gB u rfl (hI.nex hb hl ho)
   ·refine (if_pos (show Region.wanted _ _ = true by kernel_rfl)).mpr ?_
    refine wp_mkI _ _ k rfl rfl rfl HK.out.1 HK.out.2 (fun u hb hl ho => ?_)
    refine hK.out _ _ trivial (fun _ => ?_)
    try simp only [Act.put, List.setIfInBounds_toArray, List.set_cons_zero, List.set_cons_succ]
    exact ih true true false true false gV gN _ gB u rfl (hI.mat hb hl ho)
   ·refine (if_pos (show Region.wanted _ _ = true by kernel_rfl)).mpr ?_
    refine wp_newN rfl ?_
    refine hK.out _ _ trivial (fun _ => ?_)
    try simp only [Act.put, List.setIfInBounds_toArray, List.set_cons_zero, List.set_cons_succ]
    exact ih true true false false true gV gN gM _ _ rfl hI.var
  ·have hN2 : N = 1 := by unfold cnt5 at hN; simp at hN; omega
   subst hN2
   simp only [cond_true, cond_false]
   refine wpAnyH_ready (rs := [5, 7]) (by kernel_rfl) (by simp) ?_
   refine AllReadyH.cons (o := ⟨_, _, _, _, _, _⟩) rfl (fun K hK => ?_) (AllReadyH.cons (o := ⟨_, _, _, _, _, _⟩) rfl (fun K hK => ?_) AllReadyH.nil)
   ·refine (if_pos (show Region.wanted _ _ = true by kernel_rfl)).mpr ?_
    refine wp_mkI _ _ k rfl rfl rfl HK.out.1 HK.out.2 (fun u hb hl ho => ?_)
    refine hK.out _ _ trivial (fun _ => ?_)
    try simp only [Act.put, List.setIfInBounds_toArray, List.set_cons_zero, List.set_cons_succ]
    exact ih true true true false true gV _ gM gB u rfl (hI.nex hb hl ho)
   ·refine (if_pos (show Region.wanted _ _ = true by kernel_rfl)).mpr ?_
    refine wp_mkI _ _ k rfl rfl rfl HK.out.1 HK.out.2 (fun u hb hl ho => ?_)
    refine hK.out _ _ trivial (fun _ => ?_)
    try simp only [Act.put, List.setIfInBounds_toArray, List.set_cons_zero, List.set_cons_succ]
    exact ih true true false true true gV gN _ gB u rfl (hI.mat hb hl ho)
  ·have hN2 : N = 1 := by unfold cnt5 at hN; simp at hN; omega
   subst hN2
   simp only [cond_true, cond_false]
   refine wpAnyH_ready (rs := [5, 9]) (by kernel_rfl) (by simp) ?_
   refine AllReadyH.cons (o := ⟨_, _, _, _, _, _⟩) rfl (fun K hK => ?_) (AllReadyH.cons (o := ⟨_, _, _, _, _, _⟩) rfl (fun K hK => ?_) AllReadyH.nil)
   ·refine (if_pos (show Region.wanted _ _ = true by kernel_rfl)).mpr ?_
    refine wp_mkI _ _ k rfl rfl rfl HK.out.1 HK.out.2 (fun u hb hl ho => ?_)
    refine hK.out _ _ trivial (fun _ => ?_)
    try simp only [Act.put, List.setIfInBounds_toArray, List.set_cons_zero, List.set_cons_succ]
    exact ih true true true true false gV _ gM gB u rfl (hI.nex hb hl ho)
   ·refine (if_pos (show Region.wanted _ _ = true by kernel_rfl)).mpr ?_
    refine wp_newN rfl ?_
    refine hK.out _ _ trivial (fun _ => ?_)
    try simp only [Act.put, List.setIfInBounds_toArray, List.set_cons_zero, List.set_cons_succ]
    exact ih true true false true true gV gN gM _ _ rfl hI.var
  ·have hN2 : N = 0 := by unfold cnt5 at hN; simp at hN; omega
   subst hN2
   simp only [cond_true, cond_false]
   refine wpAnyH_ready (rs := [5]) (by kernel_rfl) (by simp) ?_
   refine AllReadyH.cons (o := ⟨_, _, _, _, _, _⟩) rfl (fun K hK => ?_) AllReadyH.nil
   ·refine (if_pos (show Region.wanted _ _ = true by kernel_rfl)).mpr ?_
    refine wp_mkI _ _ k rfl rfl rfl HK.out.1 HK.out.2 (fun u hb hl ho => ?_)
    refine hK.out _ _ trivial (fun _ => ?_)
    try simp only [Act.put, List.setIfInBounds_toArray, List.set_cons_zero, List.set_cons_succ]
    exact ih true true true true true gV _ gM gB u rfl (hI.nex hb hl ho)
  ·have hN2 : N = 1 := by unfold cnt5 at hN; simp at hN; omega
   subst hN2
   simp only [cond_true, cond_false]
   refine wpAnyH_ready (rs := [7, 9]) (by kernel_rfl) (by simp) ?_
   refine AllReadyH.cons (o := ⟨_, _, _, _, _, _⟩) rfl (fun K hK => ?_) (AllReadyH.cons (o := ⟨_, _, _, _, _, _⟩) rfl (fun K hK => ?_) AllReadyH.nil)
   ·refine (if_pos (show Region.wanted _ _ = true by kernel_rfl)).mpr ?_
    refine wp_mkI _ _ k rfl rfl rfl HK.out.1 HK.out.2 (fun u hb hl ho => ?_)
    refine hK.out _ _ trivial (fun _ => ?_)
    try simp only [Act.put, List.setIfInBounds_toArray, List.set_cons_zero, List.set_cons_succ]
    exact ih true true true true false gV gN _ gB u rfl (hI.mat hb hl ho)
   ·refine (if_pos (show Region.wanted _ _ = true by kernel_rfl)).mpr ?_
    refine wp_newN rfl ?_
    refine hK.out _ _ trivial (fun _ => ?_)
    try simp only [Act.put, List.setIfInBounds_toArray, List.set_cons_zero, List.set_cons_succ]
    exact ih true true true false true gV gN gM _ _ rfl hI.var
  ·have hN2 : N = 0 := by unfold cnt5 at hN; simp at hN; omega
   subst hN2
   simp only [cond_true, cond_false]
   refine wpAnyH_ready (rs := [7]) (by kernel_rfl) (by simp) ?_
   refine AllReadyH.cons (o := ⟨_, _, _, _, _, _⟩) rfl (fun K hK => ?_) AllReadyH.nil
   ·refine (if_pos (show Region.wanted _ _ = true by kernel_rfl)).mpr ?_
    refine wp_mkI _ _ k rfl rfl rfl HK.out.1 HK.out.2 (fun u hb hl ho => ?_)
    refine hK.out _ _ trivial (fun _ => ?_)
    try simp only [Act.put, List.setIfInBounds_toArray, List.set_cons_zero, List.set_cons_succ]
    exact ih true true true true true gV gN _ gB u rfl (hI.mat hb hl ho)
  ·have hN2 : N = 0 := by unfold cnt5 at hN; simp at hN; omega
   subst hN2
   simp only [cond_true, cond_false]
   refine wpAnyH_take (i := 8) (oi := ⟨_, _, _, _, _, _⟩) (v := ?_) rfl (by kernel_rfl) (by kernel_rfl) (by kernel_rfl) (fun _ _ _ h => h) (Or.inl ⟨by rfl, ?_⟩) (by assumption) ?_
   rotate_left
   ·((intro w hSw; (try dsimp only at hSw); go_simp); (try with_reducible rfl))
   try simp only [Act.put, List.setIfInBounds_toArray, List.set_cons_zero, List.set_cons_succ]
   refine wpAnyH_ready (rs := [9]) (by kernel_rfl) (by simp) ?_
   refine AllReadyH.cons (o := ⟨_, _, _, _, _, _⟩) rfl (fun K hK => ?_) AllReadyH.nil
   refine (if_pos (show Region.wanted _ _ = true by kernel_rfl)).mpr ?_
   refine wp_newN rfl ?_
   refine hK.out _ _ trivial (fun _ => ?_)
   try simp only [Act.put, List.setIfInBounds_toArray, List.set_cons_zero, List.set_cons_succ]
   exact fin gV gN gM _ _ hI.var
  ·simp [cnt5] at hN
 case fin =>
  intro gV gN gM gB W hI
  obtain ⟨B2, z1, Y1, f3, f5, f7, f9, p35, p37, p57, p39, p59, p79⟩ := hI
  obtain ⟨v1, v2, oV⟩ := f3 rfl
  obtain ⟨n1, n2, oN⟩ := f5 rfl
  obtain ⟨m1, m2, oM⟩ := f7 rfl
  obtain ⟨b1, b2, XB⟩ := f9 rfl
  have n35 := p35 rfl rfl
  have n37 := p37 rfl rfl
  have n57 := p57 rfl rfl
  have n39 := p39 rfl rfl
  have n59 := p59 rfl rfl
  have n79 := p79 rfl rfl
  clear f3 f5 f7 f9 p35 p37 p57 p39 p59 p79
  have TH : Hid (W.there gB 0 (List.toArray ([.int .i64 id, .int .i64 0, .int .i64 (-1), .int .i64 0, .int .i64 0, .slice none 0 0, .bool true, .slice none 0 0, .slice none 0 0, .slice none 0 0, .slice none 0 0, .slice none 0 0, .int .i64 0, .slice (some ⟨gV, 0, none⟩) k k, .slice (some ⟨gN, 0, none⟩) k k, .slice (some ⟨gM, 0, none⟩) k k, .int .i64 0, .bool false, .slice none 0 0, .slice none 0 0, .slice none 0 0, .slice none 0 0, .slice none 0 0] : List Value)).size) := there_of XB rfl
  have HM : Hid ((Try.prog.info? 48).map (·.size) = some (List.toArray ([.int .i64 id, .int .i64 0, .int .i64 (-1), .int .i64 0, .int .i64 0, .slice none 0 0, .bool true, .slice none 0 0, .slice none 0 0, .slice none 0 0, .slice none 0 0, .slice none 0 0, .int .i64 0, .slice (some ⟨gV, 0, none⟩) k k, .slice (some ⟨gN, 0, none⟩) k k, .slice (some ⟨gM, 0, none⟩) k k, .int .i64 0, .bool false, .slice none 0 0, .slice none 0 0, .slice none 0 0, .slice none 0 0, .slice none 0 0] : List Value)).size) := (show (Try.prog.info? 48).map (·.size) = some 23 by kernel_rfl)
  have AL : Hid ((List.toArray ([.int .i64 id, .int .i64 0, .int .i64 (-1), .int .i64 0, .int .i64 0, .slice none 0 0, .bool true, .slice none 0 0, .slice none 0 0, .slice none 0 0, .slice none 0 0, .slice none 0 0, .int .i64 0, .slice (some ⟨gV, 0, none⟩) k k, .slice (some ⟨gN, 0, none⟩) k k, .slice (some ⟨gM, 0, none⟩) k k, .int .i64 0, .bool false, .slice none 0 0, .slice none 0 0, .slice none 0 0, .slice none 0 0, .slice none 0 0] : List Value)).all (·.oneCell') = true) := by show _ = _; simp [Value.oneCell']
  have GC : Chg (fun g => g = gB) W (W.setCells gB 0 ([.int .i64 id, .int .i64 0, .int .i64 (-1), .int .i64 0, .int .i64 0, .slice none 0 0, .bool true, .slice none 0 0, .slice none 0 0, .slice none 0 0, .slice none 0 0, .slice none 0 0, .int .i64 0, .slice (some ⟨gV, 0, none⟩) k k, .slice (some ⟨gN, 0, none⟩) k k, .slice (some ⟨gM, 0, none⟩) k k, .int .i64 0, .bool false, .slice none 0 0, .slice none 0 0, .slice none 0 0, .slice none 0 0, .slice none 0 0] : List Value)) := Chg.setCells (F := fun g => g = gB) (g := gB) (fun _ => rfl) _ 0 W (Chg.refl _ _)
  have X1 : (W.setCells gB 0 ([.int .i64 id, .int .i64 0, .int .i64 (-1), .int .i64 0, .int .i64 0, .slice none 0 0, .bool true, .slice none 0 0, .slice none 0 0, .slice none 0 0, .slice none 0 0, .slice none 0 0, .int .i64 0, .slice (some ⟨gV, 0, none⟩) k k, .slice (some ⟨gN, 0, none⟩) k k, .slice (some ⟨gM, 0, none⟩) k k, .int .i64 0, .bool false, .slice none 0 0, .slice none 0 0, .slice none 0 0, .slice none 0 0, .slice none 0 0] : List Value)).heap[gB]? = some (.cells (nodArr ⟨id, 0, -1, 0, 0, .slice none 0 0, eM, 0, .slice (some ⟨gV, 0, none⟩) k k, .slice (some ⟨gN, 0, none⟩) k k, .slice (some ⟨gM, 0, none⟩) k k, 0, zM⟩) 48 (0, 0)) := setAll_at XB _ rfl
  have hz1 : W.heap.size ≤ (W.setCells gB 0 ([.int .i64 id, .int .i64 0, .int .i64 (-1), .int .i64 0, .int .i64 0, .slice none 0 0, .bool true, .slice none 0 0, .slice none 0 0, .slice none 0 0, .slice none 0 0, .slice none 0 0, .int .i64 0, .slice (some ⟨gV, 0, none⟩) k k, .slice (some ⟨gN, 0, none⟩) k k, .slice (some ⟨gM, 0, none⟩) k k, .int .i64 0, .bool false, .slice none 0 0, .slice none 0 0, .slice none 0 0, .slice none 0 0, .slice none 0 0] : List Value)).heap.size := GC.size
  have oV1 := oV.chg GC (fun g _ _ e => by omega)
  have oN1 := oN.chg GC (fun g _ _ e => by omega)
  have oM1 := oM.chg GC (fun g _ _ e => by omega)
  have Y2 : Hid ((W.setCells gB 0 ([.int .i64 id, .int .i64 0, .int .i64 (-1), .int .i64 0, .int .i64 0, .slice none 0 0, .bool true, .slice none 0 0, .slice none 0 0, .slice none 0 0, .slice none 0 0, .slice none 0 0, .int .i64 0, .slice (some ⟨gV, 0, none⟩) k k, .slice (some ⟨gN, 0, none⟩) k k, .slice (some ⟨gM, 0, none⟩) k k, .int .i64 0, .bool false, .slice none 0 0, .slice none 0 0, .slice none 0 0, .slice none 0 0, .slice none 0 0] : List Value)).heap[w.heap.size]? = some (.cells #[.int .i64 0, .int .i64 0, .int .i64 0, .int .i64 0, .int .i64 0, .slice none 0 0, .bool false, .slice none 0 0, .slice none 0 0, .slice none 0 0, .slice none 0 0, .slice none 0 0, .int .i64 0, .slice none 0 0, .slice none 0 0, .slice none 0 0, .int .i64 0, .bool false, .slice none 0 0, .slice none 0 0, .slice none 0 0, .slice none 0 0, .slice none 0 0] 48 (0, 0))) := row_chg Y1 GC (fun e => by omega)
  have BV : Hid (Below w.heap.size w (W.setCells gB 0 ([.int .i64 id, .int .i64 0, .int .i64 (-1), .int .i64 0, .int .i64 0, .slice none 0 0, .bool true, .slice none 0 0, .slice none 0 0, .slice none 0 0, .slice none 0 0, .slice none 0 0, .int .i64 0, .slice (some ⟨gV, 0, none⟩) k k, .slice (some ⟨gN, 0, none⟩) k k, .slice (some ⟨gM, 0, none⟩) k k, .int .i64 0, .bool false, .slice none 0 0, .slice none 0 0, .slice none 0 0, .slice none 0 0, .slice none 0 0] : List Value))) := B2.trans (GC.below (fun g _ e => by omega) B2.size)
  have E := hid9 (empty_u 1 ⟨id, 0, -1, 0, 0, .slice none 0 0, eM, 0, .slice (some ⟨gV, 0, none⟩) k k, .slice (some ⟨gN, 0, none⟩) k k, .slice (some ⟨gM, 0, none⟩) k k, 0, zM⟩ ⟨[], nwT, [], List.replicate k false, List.replicate k 0, List.replicate k 0, zT, []⟩ gV gN gM gB (W.setCells gB 0 ([.int .i64 id, .int .i64 0, .int .i64 (-1), .int .i64 0, .int .i64 0, .slice none 0 0, .bool true, .slice none 0 0, .slice none 0 0, .slice none 0 0, .slice none 0 0, .slice none 0 0, .int .i64 0, .slice (some ⟨gV, 0, none⟩) k k, .slice (some ⟨gN, 0, none⟩) k k, .slice (some ⟨gM, 0, none⟩) k k, .int .i64 0, .bool false, .slice none 0 0, .slice none 0 0, .slice none 0 0, .slice none 0 0, .slice none 0 0] : List Value)) n35 n37 n57 n39 n59 n79 X1 ⟨OwnE.nil _ _ _ _, fun g hg => (wrB_none hg).elim⟩ (nM_own true 0 _ _) (by simpa [flatL] using oV1) (by simpa [flatI] using oN1) (by simpa [flatI] using oM1) ⟨Nat.zero_le _, by simp [sizeT, nwT], Nat.zero_le _, by have := HK.out; simp; omega, by have := HK.out; simp; omega, by have := HK.out; simp; omega, by simp [sizeT, zT], Nat.zero_le _⟩)
  refine wpAnyH_ready (rs := [10]) (by kernel_rfl) (by simp) ?_
  refine AllReadyH.cons (o := ⟨_, _, _, _, _, _⟩) rfl (fun K hK => ?_) AllReadyH.nil
  refine (if_pos (show Region.wanted _ _ = true by kernel_rfl)).mpr ?_
  refine wp_store_mid 48 _ _ rfl gB 0 (List.toArray ([.int .i64 id, .int .i64 0, .int .i64 (-1), .int .i64 0, .int .i64 0, .slice none 0 0, .bool true, .slice none 0 0, .slice none 0 0, .slice none 0 0, .slice none 0 0, .slice none 0 0, .int .i64 0, .slice (some ⟨gV, 0, none⟩) k k, .slice (some ⟨gN, 0, none⟩) k k, .slice (some ⟨gM, 0, none⟩) k k, .int .i64 0, .bool false, .slice none 0 0, .slice none 0 0, .slice none 0 0, .slice none 0 0, .slice none 0 0] : List Value)) rfl rfl TH.out HM.out AL.out ?_
  refine hK.out _ _ trivial (fun _ => ?_)
  clear hK K
  try simp only [Act.put]
  refine wpAnyH_done (by kernel_rfl) ?_ _
  clear TH HM AL X1 oV1 oN1 oM1 oV oN oM XB Y1 B2 GC
  generalize W.setCells gB 0 ([.int .i64 id, .int .i64 0, .int .i64 (-1), .int .i64 0, .int .i64 0, .slice none 0 0, .bool true, .slice none 0 0, .slice none 0 0, .slice none 0 0, .slice none 0 0, .slice none 0 0, .int .i64 0, .slice (some ⟨gV, 0, none⟩) k k, .slice (some ⟨gN, 0, none⟩) k k, .slice (some ⟨gM, 0, none⟩) k k, .int .i64 0, .bool false, .slice none 0 0, .slice none 0 0, .slice none 0 0, .slice none 0 0, .slice none 0 0] : List Value) = V at *
  go_wp2_with fail
  refine E.out.mono ?_
  rintro e V5 ⟨rfl, m, hB, p1, p2, p3, p4, p5, p6, gc⟩
  clear E
  have Y3 := hid9 (row_chg Y2.out gc (fun e => by omega))
  have B3 := hid9 (BV.out.trans (gc.below (fun g _ hg => by omega) BV.out.size))
  have hz5 := gc.size
  have at5 : NodAt 1 V5 (⟨id, 0, -1, 0, 0, .slice none 0 0, eM, 0, .slice (some ⟨gV, 0, none⟩) k k, .slice (some ⟨gN, 0, none⟩) k k, .slice (some ⟨gM, 0, none⟩) k k, 0, m⟩ : NodV) (newD true k) := ⟨p1.row, MacD.at p2, by have := p3.row; simpa [newD, flatL] using this, by have := p4.row; simpa [newD] using this, by have := p5.row; simpa [newD, flatI] using this, MacD.at p6⟩
  obtain ⟨ks, ksv, ksl, kso⟩ := at5.cells
  have X5 : Hid (V5.heap[gB]? = some (.cells ks.toArray 48 (0, 0))) := by
   have e2 := ksv
   simp only [NodV.val] at e2
   injection e2 with e3
   rw [← e3]
   exact hB
  have RG : Hid (V5.rangeAt gB 0 ks) := by have := range_of X5.out; rw [List.toList_toArray] at this; exact this
  have TH2 : Hid (V5.there w.heap.size 0 ks.toArray.size) := there_of Y3.out (show 23 = ks.toArray.size by rw [List.size_toArray, ksl])
  have GC : Chg (fun g => g = w.heap.size) V5 (V5.setCells w.heap.size 0 ks) := Chg.setCells (F := fun g => g = w.heap.size) (g := w.heap.size) (fun _ => rfl) ks 0 V5 (Chg.refl _ _)
  have XF : Hid ((V5.setCells w.heap.size 0 ks).heap[w.heap.size]? = some (.cells ks.toArray 48 (0, 0))) := setAll_at Y3.out ks (by rw [ksl]; rfl)
  have HM1 : Hid ((Try.prog.info? 48).map (·.size) = some ks.length) := by show _ = _; rw [ksl]; kernel_rfl
  have HM2 : Hid ((Try.prog.info? 48).map (·.size) = some ks.toArray.size) := by show _ = _; rw [List.size_toArray]; exact HM1.out
  have hzf := GC.size
  have q1 := p1.chg GC (fun g _ _ e => by omega)
  have q2 := p2.chg GC (fun g _ _ e => by omega)
  have q3 := p3.chg GC (fun g _ _ e => by omega)
  have q4 := p4.chg GC (fun g _ _ e => by omega)
  have q5 := p5.chg GC (fun g _ _ e => by omega)
  have q6 := p6.chg GC (fun g _ _ e => by omega)
  have FIN : Hid (∃ K : NodV, Value.agg ks.toArray = K.val ∧ (newV true id).like K ∧ NodAt 1 (V5.setCells w.heap.size 0 ks) K (newD true k) ∧ MkN 1 (V5.setCells w.heap.size 0 ks) w.heap.size (V5.setCells w.heap.size 0 ks).heap.size K (newD true k) ∧ Below w.heap.size w (V5.setCells w.heap.size 0 ks)) :=
   ⟨(⟨id, 0, -1, 0, 0, .slice none 0 0, eM, 0, .slice (some ⟨gV, 0, none⟩) k k, .slice (some ⟨gN, 0, none⟩) k k, .slice (some ⟨gM, 0, none⟩) k k, 0, m⟩ : NodV), ksv.symm, ⟨rfl, rfl, rfl, rfl, rfl, rfl, rfl⟩, ⟨q1.row, MacD.at q2, by have := q3.row; simpa [newD, flatL] using this, by have := q4.row; simpa [newD] using this, by have := q5.row; simpa [newD, flatI] using this, MacD.at q6⟩,
    nodA_new (N := (⟨id, 0, -1, 0, 0, .slice none 0 0, eM, 0, .slice (some ⟨gV, 0, none⟩) k k, .slice (some ⟨gN, 0, none⟩) k k, .slice (some ⟨gM, 0, none⟩) k k, 0, m⟩ : NodV)) (D := newD true k) (lo := w.heap.size) (gV := gV) (gN := gN) (gM := gM) (c5 := V.heap.size) (c6 := V5.heap.size) ⟨by omega, by omega, by omega, n35, n37, n57, by omega, by omega, by omega, by omega, hzf⟩ q1 q2 (by have := q3; simpa [newD, flatL] using this) (by have := q4; simpa [newD] using this) (by have := q5; simpa [newD, flatI] using this) q6,
    B3.out.trans (GC.below (fun g _ hg => by omega) B3.out.size)⟩
  clear GC at5 q1 q2 q3 q4 q5 q6 p1 p2 p3 p4 p5 p6 gc hB X5 Y3 B3 Y2 BV
  go_wp2_with (first | (refine wpList_load_mid rfl 48 _ rfl gB 0 rfl ks _ RG.out Try.underlying48 rfl HM1.out ?_) | (refine wpList_store_mid rfl 48 _ _ rfl w.heap.size 0 ks.toArray rfl rfl TH2.out HM2.out kso ?_))
  generalize V5.setCells w.heap.size 0 ks = WF at *
  exact ⟨rfl, _, results_cell_two Try.results12 _ WF w.heap.size 48 ks.toArray (0, 0) _ rfl XF.out Try.underlying48 rfl HM2.out, (by obtain ⟨K, e, r⟩ := FIN.out; exact ⟨K, by rw [← e]; rfl, r⟩)⟩

theorem implNodeNew_no (id size : Int) (w : World) (h : nnB id size = false) :
  Calls Try.prog 12 #[.int .i64 id, .int .i64 size] w fun e w' => ∃ K : NodV, e = .returned (.tuple #[K.val, .bool false]) ∧ (newV false id).like K ∧ NodAt 1 w' K (newD false size.toNat) ∧ MkN 1 w' w.heap.size w'.heap.size K (newD false size.toNat) ∧ Below w.heap.size w w' := by
 have B1 : Hid (Below w.heap.size w (w.alloc (.cells #[.int .i64 0, .int .i64 0, .int .i64 0, .int .i64 0, .int .i64 0, .slice none 0 0, .bool false, .slice none 0 0, .slice none 0 0, .slice none 0 0, .slice none 0 0, .slice none 0 0, .int .i64 0, .slice none 0 0, .slice none 0 0, .slice none 0 0, .int .i64 0, .bool false, .slice none 0 0, .slice none 0 0, .slice none 0 0, .slice none 0 0, .slice none 0 0] 48))) := bel_nw _ _
 have zW : Hid (w.heap.size + 1 ≤ (w.alloc (.cells #[.int .i64 0, .int .i64 0, .int .i64 0, .int .i64 0, .int .i64 0, .slice none 0 0, .bool false, .slice none 0 0, .slice none 0 0, .slice none 0 0, .slice none 0 0, .slice none 0 0, .int .i64 0, .slice none 0 0, .slice none 0 0, .slice none 0 0, .int .i64 0, .bool false, .slice none 0 0, .slice none 0 0, .slice none 0 0, .slice none 0 0, .slice none 0 0] 48)).heap.size) := by show _ ≤ _; simp
 have Y1 : Hid ((w.alloc (.cells #[.int .i64 0, .int .i64 0, .int .i64 0, .int .i64 0, .int .i64 0, .slice none 0 0, .bool false, .slice none 0 0, .slice none 0 0, .slice none 0 0, .slice none 0 0, .slice none 0 0, .int .i64 0, .slice none 0 0, .slice none 0 0, .slice none 0 0, .int .i64 0, .bool false, .slice none 0 0, .slice none 0 0, .slice none 0 0, .slice none 0 0, .slice none 0 0] 48)).heap[w.heap.size]? = some (.cells #[.int .i64 0, .int .i64 0, .int .i64 0, .int .i64 0, .int .i64 0, .slice none 0 0, .bool false, .slice none 0 0, .slice none 0 0, .slice none 0 0, .slice none 0 0, .slice none 0 0, .int .i64 0, .slice none 0 0, .slice none 0 0, .slice none 0 0, .int .i64 0, .bool false, .slice none 0 0, .slice none 0 0, .slice none 0 0, .slice none 0 0, .slice none 0 0] 48 (0, 0))) := heap_alloc_new w _
 go_enter Try.func12, Try.ntmps12
 go_wp2_with fail
 refine (sizeOk_any _ _).mono ?_
 rintro e w1 ⟨rfl, hw1⟩
 subst hw1
 cases h1 : inB size 1 5
 ·clear h h1
  go_upto_region 2 with fail
  generalize (w.alloc (.cells #[.int .i64 0, .int .i64 0, .int .i64 0, .int .i64 0, .int .i64 0, .slice none 0 0, .bool false, .slice none 0 0, .slice none 0 0, .slice none 0 0, .slice none 0 0, .slice none 0 0, .int .i64 0, .slice none 0 0, .slice none 0 0, .slice none 0 0, .int .i64 0, .bool false, .slice none 0 0, .slice none 0 0, .slice none 0 0, .slice none 0 0, .slice none 0 0] 48)) = wq at *
  have TH2 : Hid (wq.there w.heap.size 0 (List.toArray ([.int .i64 0, .int .i64 0, .int .i64 0, .int .i64 0, .int .i64 0, .slice none 0 0, .bool false, .slice none 0 0, .slice none 0 0, .slice none 0 0, .slice none 0 0, .slice none 0 0, .int .i64 0, .slice none 0 0, .slice none 0 0, .slice none 0 0, .int .i64 0, .bool false, .slice none 0 0, .slice none 0 0, .slice none 0 0, .slice none 0 0, .slice none 0 0] : List Value)).size) := there_of Y1.out rfl
  have GC : Chg (fun g => g = w.heap.size) wq (wq.setCells w.heap.size 0 ([.int .i64 0, .int .i64 0, .int .i64 0, .int .i64 0, .int .i64 0, .slice none 0 0, .bool false, .slice none 0 0, .slice none 0 0, .slice none 0 0, .slice none 0 0, .slice none 0 0, .int .i64 0, .slice none 0 0, .slice none 0 0, .slice none 0 0, .int .i64 0, .bool false, .slice none 0 0, .slice none 0 0, .slice none 0 0, .slice none 0 0, .slice none 0 0] : List Value)) := Chg.setCells (F := fun g => g = w.heap.size) (g := w.heap.size) (fun _ => rfl) _ 0 wq (Chg.refl _ _)
  have XF : Hid ((wq.setCells w.heap.size 0 ([.int .i64 0, .int .i64 0, .int .i64 0, .int .i64 0, .int .i64 0, .slice none 0 0, .bool false, .slice none 0 0, .slice none 0 0, .slice none 0 0, .slice none 0 0, .slice none 0 0, .int .i64 0, .slice none 0 0, .slice none 0 0, .slice none 0 0, .int .i64 0, .bool false, .slice none 0 0, .slice none 0 0, .slice none 0 0, .slice none 0 0, .slice none 0 0] : List Value)).heap[w.heap.size]? = some (.cells (List.toArray ([.int .i64 0, .int .i64 0, .int .i64 0, .int .i64 0, .int .i64 0, .slice none 0 0, .bool false, .slice none 0 0, .slice none 0 0, .slice none 0 0, .slice none 0 0, .slice none 0 0, .int .i64 0, .slice none 0 0, .slice none 0 0, .slice none 0 0, .int .i64 0, .bool false, .slice none 0 0, .slice none 0 0, .slice none 0 0, .slice none 0 0, .slice none 0 0] : List Value)) 48 (0, 0))) := setAll_at Y1.out _ rfl
  have HM2 : Hid ((Try.prog.info? 48).map (·.size) = some (List.toArray ([.int .i64 0, .int .i64 0, .int .i64 0, .int .i64 0, .int .i64 0, .slice none 0 0, .bool false, .slice none 0 0, .slice none 0 0, .slice none 0 0, .slice none 0 0, .slice none 0 0, .int .i64 0, .slice none 0 0, .slice none 0 0, .slice none 0 0, .int .i64 0, .bool false, .slice none 0 0, .slice none 0 0, .slice none 0 0, .slice none 0 0, .slice none 0 0] : List Value)).size) := (show (Try.prog.info? 48).map (·.size) = some 23 by kernel_rfl)
  have AL : Hid ((List.toArray ([.int .i64 0, .int .i64 0, .int .i64 0, .int .i64 0, .int .i64 0, .slice none 0 0, .bool false, .slice none 0 0, .slice none 0 0, .slice none 0 0, .slice none 0 0, .slice none 0 0, .int .i64 0, .slice none 0 0, .slice none 0 0, .slice none 0 0, .int .i64 0, .bool false, .slice none 0 0, .slice none 0 0, .slice none 0 0, .slice none 0 0, .slice none 0 0] : List Value)).all (·.oneCell') = true) := by show _ = _; simp [Value.oneCell']
  have hzf := GC.size
  have FIN : Hid (∃ K : NodV, Value.agg (List.toArray ([.int .i64 0, .int .i64 0, .int .i64 0, .int .i64 0, .int .i64 0, .slice none 0 0, .bool false, .slice none 0 0, .slice none 0 0, .slice none 0 0, .slice none 0 0, .slice none 0 0, .int .i64 0, .slice none 0 0, .slice none 0 0, .slice none 0 0, .int .i64 0, .bool false, .slice none 0 0, .slice none 0 0, .slice none 0 0, .slice none 0 0, .slice none 0 0] : List Value)) = K.val ∧ (newV false id).like K ∧ NodAt 1 (wq.setCells w.heap.size 0 ([.int .i64 0, .int .i64 0, .int .i64 0, .int .i64 0, .int .i64 0, .slice none 0 0, .bool false, .slice none 0 0, .slice none 0 0, .slice none 0 0, .slice none 0 0, .slice none 0 0, .int .i64 0, .slice none 0 0, .slice none 0 0, .slice none 0 0, .int .i64 0, .bool false, .slice none 0 0, .slice none 0 0, .slice none 0 0, .slice none 0 0, .slice none 0 0] : List Value)) K (newD false size.toNat) ∧ MkN 1 (wq.setCells w.heap.size 0 ([.int .i64 0, .int .i64 0, .int .i64 0, .int .i64 0, .int .i64 0, .slice none 0 0, .bool false, .slice none 0 0, .slice none 0 0, .slice none 0 0, .slice none 0 0, .slice none 0 0, .int .i64 0, .slice none 0 0, .slice none 0 0, .slice none 0 0, .int .i64 0, .bool false, .slice none 0 0, .slice none 0 0, .slice none 0 0, .slice none 0 0, .slice none 0 0] : List Value)) w.heap.size (wq.setCells w.heap.size 0 ([.int .i64 0, .int .i64 0, .int .i64 0, .int .i64 0, .int .i64 0, .slice none 0 0, .bool false, .slice none 0 0, .slice none 0 0, .slice none 0 0, .slice none 0 0, .slice none 0 0, .int .i64 0, .slice none 0 0, .slice none 0 0, .slice none 0 0, .int .i64 0, .bool false, .slice none 0 0, .slice none 0 0, .slice none 0 0, .slice none 0 0, .slice none 0 0] : List Value)).heap.size K (newD false size.toNat) ∧ Below w.heap.size w (wq.setCells w.heap.size 0 ([.int .i64 0, .int .i64 0, .int .i64 0, .int .i64 0, .int .i64 0, .slice none 0 0, .bool false, .slice none 0 0, .slice none 0 0, .slice none 0 0, .slice none 0 0, .slice none 0 0, .int .i64 0, .slice none 0 0, .slice none 0 0, .slice none 0 0, .int .i64 0, .bool false, .slice none 0 0, .slice none 0 0, .slice none 0 0, .slice none 0 0, .slice none 0 0] : List Value))) :=
   ⟨newV false id, rfl, NodV.like.refl _, zero_at _ _ _, (zero_dh _ _ _ _ _ (by have := zW.out; omega) (Nat.le_refl _)).own, B1.out.trans (GC.below (fun g _ hg => by omega) B1.out.size)⟩
  clear GC B1 Y1
  go_wp2_with (refine wpList_store_mid rfl 48 _ _ rfl w.heap.size 0 (List.toArray ([.int .i64 0, .int .i64 0, .int .i64 0, .int .i64 0, .int .i64 0, .slice none 0 0, .bool false, .slice none 0 0, .slice none 0 0, .slice none 0 0, .slice none 0 0, .slice none 0 0, .int .i64 0, .slice none 0 0, .slice none 0 0, .slice none 0 0, .int .i64 0, .bool false, .slice none 0 0, .slice none 0 0, .slice none 0 0, .slice none 0 0, .slice none 0 0] : List Value)) rfl rfl TH2.out HM2.out AL.out ?_)
  generalize (wq.setCells w.heap.size 0 ([.int .i64 0, .int .i64 0, .int .i64 0, .int .i64 0, .int .i64 0, .slice none 0 0, .bool false, .slice none 0 0, .slice none 0 0, .slice none 0 0, .slice none 0 0, .slice none 0 0, .int .i64 0, .slice none 0 0, .slice none 0 0, .slice none 0 0, .int .i64 0, .bool false, .slice none 0 0, .slice none 0 0, .slice none 0 0, .slice none 0 0, .slice none 0 0] : List Value)) = WF at *
  exact ⟨rfl, _, results_cell_two Try.results12 _ WF w.heap.size 48 _ (0, 0) _ rfl XF.out Try.underlying48 rfl HM2.out, (by obtain ⟨K, e, r⟩ := FIN.out; exact ⟨K, by rw [← e]; rfl, r⟩)⟩
 ·have h2 : inB id 0 (size - 1) = false := by unfold nnB at h; rw [h1] at h; simpa using h
  go_wp2_with fail
  refine (isOneOf_any _ _ _).mono ?_
  rintro e w1 ⟨rfl, hw1⟩
  subst hw1
  rw [h2]
  clear h h1 h2
  go_upto_region 2 with fail
  generalize (w.alloc (.cells #[.int .i64 0, .int .i64 0, .int .i64 0, .int .i64 0, .int .i64 0, .slice none 0 0, .bool false, .slice none 0 0, .slice none 0 0, .slice none 0 0, .slice none 0 0, .slice none 0 0, .int .i64 0, .slice none 0 0, .slice none 0 0, .slice none 0 0, .int .i64 0, .bool false, .slice none 0 0, .slice none 0 0, .slice none 0 0, .slice none 0 0, .slice none 0 0] 48)) = wq at *
  have TH2 : Hid (wq.there w.heap.size 0 (List.toArray ([.int .i64 0, .int .i64 0, .int .i64 0, .int .i64 0, .int .i64 0, .slice none 0 0, .bool false, .slice none 0 0, .slice none 0 0, .slice none 0 0, .slice none 0 0, .slice none 0 0, .int .i64 0, .slice none 0 0, .slice none 0 0, .slice none 0 0, .int .i64 0, .bool false, .slice none 0 0, .slice none 0 0, .slice none 0 0, .slice none 0 0, .slice none 0 0] : List Value)).size) := there_of Y1.out rfl
  have GC : Chg (fun g => g = w.heap.size) wq (wq.setCells w.heap.size 0 ([.int .i64 0, .int .i64 0, .int .i64 0, .int .i64 0, .int .i64 0, .slice none 0 0, .bool false, .slice none 0 0, .slice none 0 0, .slice none 0 0, .slice none 0 0, .slice none 0 0, .int .i64 0, .slice none 0 0, .slice none 0 0, .slice none 0 0, .int .i64 0, .bool false, .slice none 0 0, .slice none 0 0, .slice none 0 0, .slice none 0 0, .slice none 0 0] : List Value)) := Chg.setCells (F := fun g => g = w.heap.size) (g := w.heap.size) (fun _ => rfl) _ 0 wq (Chg.refl _ _)
  have XF : Hid ((wq.setCells w.heap.size 0 ([.int .i64 0, .int .i64 0, .int .i64 0, .int .i64 0, .int .i64 0, .slice none 0 0, .bool false, .slice none 0 0, .slice none 0 0, .slice none 0 0, .slice none 0 0, .slice none 0 0, .int .i64 0, .slice none 0 0, .slice none 0 0, .slice none 0 0, .int .i64 0, .bool false, .slice none 0 0, .slice none 0 0, .slice none 0 0, .slice none 0 0, .slice none 0 0] : List Value)).heap[w.heap.size]? = some (.cells (List.toArray ([.int .i64 0, .int .i64 0, .int .i64 0, .int .i64 0, .int .i64 0, .slice none 0 0, .bool false, .slice none 0 0, .slice none 0 0, .slice none 0 0, .slice none 0 0, .slice none 0 0, .int .i64 0, .slice none 0 0, .slice none 0 0, .slice none 0 0, .int .i64 0, .bool false, .slice none 0 0, .slice none 0 0, .slice none 0 0, .slice none 0 0, .slice none 0 0] : List Value)) 48 (0, 0))) := setAll_at Y1.out _ rfl
  have HM2 : Hid ((Try.prog.info? 48).map (·.size) = some (List.toArray ([.int .i64 0, .int .i64 0, .int .i64 0, .int .i64 0, .int .i64 0, .slice none 0 0, .bool false, .slice none 0 0, .slice none 0 0, .slice none 0 0, .slice none 0 0, .slice none 0 0, .int .i64 0, .slice none 0 0, .slice none 0 0, .slice none 0 0, .int .i64 0, .bool false, .slice none 0 0, .slice none 0 0, .slice none 0 0, .slice none 0 0, .slice none 0 0] : List Value)).size) := (show (Try.prog.info? 48).map (·.size) = some 23 by kernel_rfl)
  have AL : Hid ((List.toArray ([.int .i64 0, .int .i64 0, .int .i64 0, .int .i64 0, .int .i64 0, .slice none 0 0, .bool false, .slice none 0 0, .slice none 0 0, .slice none 0 0, .slice none 0 0, .slice none 0 0, .int .i64 0, .slice none 0 0, .slice none 0 0, .slice none 0 0, .int .i64 0, .bool false, .slice none 0 0, .slice none 0 0, .slice none 0 0, .slice none 0 0, .slice none 0 0] : List Value)).all (·.oneCell') = true) := by show _ = _; simp [Value.oneCell']
  have hzf := GC.size
  have FIN : Hid (∃ K : NodV, Value.agg (List.toArray ([.int .i64 0, .int .i64 0, .int .i64 0, .int .i64 0, .int .i64 0, .slice none 0 0, .bool false, .slice none 0 0, .slice none 0 0, .slice none 0 0, .slice none 0 0, .slice none 0 0, .int .i64 0, .slice none 0 0, .slice none 0 0, .slice none 0 0, .int .i64 0, .bool false, .slice none 0 0, .slice none 0 0, .slice none 0 0, .slice none 0 0, .slice none 0 0] : List Value)) = K.val ∧ (newV false id).like K ∧ NodAt 1 (wq.setCells w.heap.size 0 ([.int .i64 0, .int .i64 0, .int .i64 0, .int .i64 0, .int .i64 0, .slice none 0 0, .bool false, .slice none 0 0, .slice none 0 0, .slice none 0 0, .slice none 0 0, .slice none 0 0, .int .i64 0, .slice none 0 0, .slice none 0 0, .slice none 0 0, .int .i64 0, .bool false, .slice none 0 0, .slice none 0 0, .slice none 0 0, .slice none 0 0, .slice none 0 0] : List Value)) K (newD false size.toNat) ∧ MkN 1 (wq.setCells w.heap.size 0 ([.int .i64 0, .int .i64 0, .int .i64 0, .int .i64 0, .int .i64 0, .slice none 0 0, .bool false, .slice none 0 0, .slice none 0 0, .slice none 0 0, .slice none 0 0, .slice none 0 0, .int .i64 0, .slice none 0 0, .slice none 0 0, .slice none 0 0, .int .i64 0, .bool false, .slice none 0 0, .slice none 0 0, .slice none 0 0, .slice none 0 0, .slice none 0 0] : List Value)) w.heap.size (wq.setCells w.heap.size 0 ([.int .i64 0, .int .i64 0, .int .i64 0, .int .i64 0, .int .i64 0, .slice none 0 0, .bool false, .slice none 0 0, .slice none 0 0, .slice none 0 0, .slice none 0 0, .slice none 0 0, .int .i64 0, .slice none 0 0, .slice none 0 0, .slice none 0 0, .int .i64 0, .bool false, .slice none 0 0, .slice none 0 0, .slice none 0 0, .slice none 0 0, .slice none 0 0] : List Value)).heap.size K (newD false size.toNat) ∧ Below w.heap.size w (wq.setCells w.heap.size 0 ([.int .i64 0, .int .i64 0, .int .i64 0, .int .i64 0, .int .i64 0, .slice none 0 0, .bool false, .slice none 0 0, .slice none 0 0, .slice none 0 0, .slice none 0 0, .slice none 0 0, .int .i64 0, .slice none 0 0, .slice none 0 0, .slice none 0 0, .int .i64 0, .bool false, .slice none 0 0, .slice none 0 0, .slice none 0 0, .slice none 0 0, .slice none 0 0] : List Value))) :=
   ⟨newV false id, rfl, NodV.like.refl _, zero_at _ _ _, (zero_dh _ _ _ _ _ (by have := zW.out; omega) (Nat.le_refl _)).own, B1.out.trans (GC.below (fun g _ hg => by omega) B1.out.size)⟩
  clear GC B1 Y1
  go_wp2_with (refine wpList_store_mid rfl 48 _ _ rfl w.heap.size 0 (List.toArray ([.int .i64 0, .int .i64 0, .int .i64 0, .int .i64 0, .int .i64 0, .slice none 0 0, .bool false, .slice none 0 0, .slice none 0 0, .slice none 0 0, .slice none 0 0, .slice none 0 0, .int .i64 0, .slice none 0 0, .slice none 0 0, .slice none 0 0, .int .i64 0, .bool false, .slice none 0 0, .slice none 0 0, .slice none 0 0, .slice none 0 0, .slice none 0 0] : List Value)) rfl rfl TH2.out HM2.out AL.out ?_)
  generalize (wq.setCells w.heap.size 0 ([.int .i64 0, .int .i64 0, .int .i64 0, .int .i64 0, .int .i64 0, .slice none 0 0, .bool false, .slice none 0 0, .slice none 0 0, .slice none 0 0, .slice none 0 0, .slice none 0 0, .int .i64 0, .slice none 0 0, .slice none 0 0, .slice none 0 0, .int .i64 0, .bool false, .slice none 0 0, .slice none 0 0, .slice none 0 0, .slice none 0 0, .slice none 0 0] : List Value)) = WF at *
  exact ⟨rfl, _, results_cell_two Try.results12 _ WF w.heap.size 48 _ (0, 0) _ rfl XF.out Try.underlying48 rfl HM2.out, (by obtain ⟨K, e, r⟩ := FIN.out; exact ⟨K, by rw [← e]; rfl, r⟩)⟩

theorem implNodeNew_any (id size : Int) (w : World) :
  Calls Try.prog 12 #[.int .i64 id, .int .i64 size] w fun e w' => ∃ K : NodV, e = .returned (.tuple #[K.val, .bool (nnB id size)]) ∧ (newV (nnB id size) id).like K ∧ NodAt 1 w' K (newD (nnB id size) size.toNat) ∧ MkN 1 w' w.heap.size w'.heap.size K (newD (nnB id size) size.toNat) ∧ Below w.heap.size w w' := by
 cases h : nnB id size
 ·exact implNodeNew_no id size w h
 ·unfold nnB at h
  simp only [Bool.and_eq_true] at h
  have hk := inB_iff.1 h.1
  obtain ⟨k, rfl⟩ := Int.eq_ofNat_of_zero_le (show 0 ≤ size by omega)
  rw [Int.toNat_natCast]
  exact implNodeNew_yes id k w h.1 h.2
end
end Go.Proofs.Ytdcladffnjikkaa
