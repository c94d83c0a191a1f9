/-
  toWorld: a world copied out of the law's own kind owns its memory.
  FirstOf: what it answers; the model's, at any world.
-/
import Derived.Test.YthfmifdpldmbaaaOfFirst13
import Derived.Test.YthfmifdpldmbaaaOfFirst14
import Derived.Test.YthfmifdpldmbaaaOfFirst11
import Derived.Test.YthfmifdpldmbaaaOfFirst12
namespace Go.Proofs.Ythfmifdpldmbaaa
set_option maxRecDepth 100000
set_option maxHeartbeats 8000000
section
open Go.RowKit

def LsOwn {ε : Type} (cs : ε → List Value) (Own : Nat → World → ε → Prop) (T K base : Nat) (w : World) (v : Value) (fs : List ε) : Prop := w.ownsRow base T K v fs.length (fs.map cs).flatten ∧ ∀ f ∈ fs, Own base w f
def noOwn {ε : Type} (_ : Nat) (_ : World) (_ : ε) : Prop := True
structure OwnK {ε : Type} (Own : Nat → World → ε → Prop) : Prop where
 below : ∀ b w u e, Own b w e → Below w.heap.size w u → Own b u e
 low : ∀ b b' w e, Own b w e → b' ≤ b → Own b' w e
 but : ∀ b R w u e, Own b w e → Chg (fun g => g = R) w u → R < b → Own b u e
theorem nodOwn_k (n : Nat) : OwnK (nodOwn n) := ⟨fun _ _ _ _ h hb => NodOwn.below h hb, fun _ _ _ _ h hb => NodOwn.low h hb, fun _ _ _ _ _ h hc hR => NodOwn.but h hc hR⟩
theorem rpcOwn_k (n : Nat) : OwnK (rpcOwn n) := ⟨fun _ _ _ _ h hb => RpcOwn.below h hb, fun _ _ _ _ h hb => RpcOwn.low h hb, fun _ _ _ _ _ h hc hR => RpcOwn.but h hc hR⟩
theorem noOwn_k {ε : Type} : OwnK (ε := ε) noOwn := ⟨fun _ _ _ _ _ _ => trivial, fun _ _ _ _ _ _ => trivial, fun _ _ _ _ _ _ _ _ => trivial⟩
theorem LsOwn.below {ε : Type} {cs : ε → List Value} {Own : Nat → World → ε → Prop} {T K base : Nat} {w u : World} {v : Value} {fs : List ε} (hk : OwnK Own) (h : LsOwn cs Own T K base w v fs) (hb : Below w.heap.size w u) : LsOwn cs Own T K base u v fs := ⟨owns_below h.1 hb, fun f hf => hk.below _ _ _ _ (h.2 f hf) hb⟩
theorem LsOwn.low {ε : Type} {cs : ε → List Value} {Own : Nat → World → ε → Prop} {T K base b : Nat} {w : World} {v : Value} {fs : List ε} (hk : OwnK Own) (h : LsOwn cs Own T K base w v fs) (hb : b ≤ base) : LsOwn cs Own T K b w v fs := ⟨owns_mono h.1 hb, fun f hf => hk.low _ _ _ _ (h.2 f hf) hb⟩
theorem LsOwn.but {ε : Type} {cs : ε → List Value} {Own : Nat → World → ε → Prop} {T K base R : Nat} {w u : World} {v : Value} {fs : List ε} (hk : OwnK Own) (h : LsOwn cs Own T K base w v fs) (hc : Chg (fun g => g = R) w u) (hR : R < base) : LsOwn cs Own T K base u v fs := ⟨owns_but h.1 hc hR, fun f hf => hk.but _ _ _ _ _ (h.2 f hf) hc hR⟩
theorem LsOwn.at {ε : Type} {cs : ε → List Value} {Own : Nat → World → ε → Prop} {At : World → ε → Prop} {T K base : Nat} {w : World} {v : Value} {fs : List ε} (hA : ∀ b w e, Own b w e → At w e) (h : LsOwn cs Own T K base w v fs) : LsAt cs At w v fs := ⟨Row.of_owns h.1, fun f hf => hA _ _ _ (h.2 f hf)⟩
def WrOwn (n : Nat) (w : World) (base : Nat) (W : WrV) (D : Wd) : Prop :=
 LsOwn nodC (nodOwn n) 94 23 base w W.nv D.ns ∧ LsOwn rpcC (rpcOwn n) 97 15 base w W.rv D.rs ∧ LsOwn cmdC noOwn 49 5 base w W.cv D.cs ∧ w.ownsRow base 104 4 W.av D.ds.length (flatD D.ds) ∧ LsOwn ledC noOwn 108 2 base w W.lv D.ls
theorem WrOwn.at {n : Nat} {w : World} {base : Nat} {W : WrV} {D : Wd} (h : WrOwn n w base W D) : WrAt n w W D :=
 ⟨h.1.at (fun _ _ _ h => NodOwn.at h), h.2.1.at (fun _ _ _ h => RpcOwn.at h), h.2.2.1.at (fun _ _ _ _ => trivial), Row.of_owns h.2.2.2.1, h.2.2.2.2.at (fun _ _ _ _ => trivial)⟩
def TW (w : World) (A C : Array Value) (u : World) : Prop := Below w.heap.size w u ∧ w.heap.size + 3 ≤ u.heap.size ∧ u.heap[w.heap.size]? = some (.cells A 28 (0, 0)) ∧ u.heap[w.heap.size + 1]? = some (.cells #[.int .i64 0, .slice none 0 0, .slice none 0 0, .slice none 0 0, .slice none 0 0, .slice none 0 0] 37 (0, 0)) ∧ u.heap[w.heap.size + 1 + 1]? = some (.cells C 37 (0, 0))
theorem TW.step {w u u' : World} {A C : Array Value} (h : TW w A C u) (hb : Below u.heap.size u u') : TW w A C u' := ⟨Below.and h.1 hb, Nat.le_trans h.2.1 hb.size, step_at h.2.2.1 hb, step_at h.2.2.2.1 hb, step_at h.2.2.2.2 hb⟩
theorem TW.sets {w u u' : World} {A C C' : Array Value} (h : TW w A C u) (hc : Chg (fun g => g = w.heap.size + 1 + 1) u u') (h2 : u'.heap[w.heap.size + 1 + 1]? = some (.cells C' 37 (0, 0))) : TW w A C' u' :=
 ⟨h.1.trans (hc.below (fun g _ hg => by omega) h.1.size), Nat.le_trans h.2.1 hc.size, row_chg h.2.2.1 hc (by omega), row_chg h.2.2.2.1 hc (by omega), h2⟩
theorem TW.set {w u : World} {A C : Array Value} (h : TW w A C u) (i : Nat) (v : Value) : TW w A (C.setIfInBounds i v) (u.setCell ⟨w.heap.size + 1 + 1, i, none⟩ v) ∧ Chg (fun g => g = w.heap.size + 1 + 1) u (u.setCell ⟨w.heap.size + 1 + 1, i, none⟩ v) := by
 have hc := (Chg.refl (fun g => g = w.heap.size + 1 + 1) u).setAt (w.heap.size + 1 + 1) i rfl v
 exact ⟨h.sets hc (set_at i v h.2.2.2.2), hc⟩

theorem toWorld_own (n : Nat) (W : WrV) (D : Wd) (w : World) (h : WrAt n w W D) (hs : D.small n) :
  Calls Try.prog 6 #[W.val] w fun e w' => ∃ (V : WrV) (E : Wd), e = .returned V.val ∧ W.sz = V.sz ∧ D.like E ∧ WrOwn n w' w.heap.size V E ∧ Below w.heap.size w w' := by
 obtain ⟨sz, nv, rv, cv, av, lv⟩ := W
 obtain ⟨q1, q2, q3, q4, q5⟩ := h
 have L0 := hq (fun u (hu : Below w.heap.size w u) => toNodeS_own n nv D.ns u (q1.below (nodAt_b n) hu) hs.n1 hs.n)
 have L1 := hq (fun u (hu : Below w.heap.size w u) => toRpcS_own n rv D.rs u (q2.below (rpcAt_b n) hu) hs.r1 hs.r)
 have L2 := hq (fun u (hu : Below w.heap.size w u) => toCmdS_own cv D.cs u (q3.below noAt_b hu) hs.c)
 have L3 := hq (fun u (hu : Below w.heap.size w u) => toDoneS_any av D.ds u (q4.below hu) hs.d)
 have L4 := hq (fun u (hu : Below w.heap.size w u) => toLeadS_own lv D.ls u (q5.below noAt_b hu) hs.l)
 have b0 : Below w.heap.size w (((w.alloc (.cells #[.int .i64 sz, nv, rv, cv, av, lv] 28)).alloc (.cells #[.int .i64 0, .slice none 0 0, .slice none 0 0, .slice none 0 0, .slice none 0 0, .slice none 0 0] 37)).alloc (.cells #[.int .i64 sz, .slice none 0 0, .slice none 0 0, .slice none 0 0, .slice none 0 0, .slice none 0 0] 37)) := (((Below.refl _ _).alloc (Nat.le_refl _) _).alloc (by simp) _).alloc (by simp; omega) _
 have n0 := ((MBox.start 28 w #[.int .i64 sz, nv, rv, cv, av, lv]).step (bel_nw _ (.cells #[.int .i64 0, .slice none 0 0, .slice none 0 0, .slice none 0 0, .slice none 0 0, .slice none 0 0] 37))).step (bel_nw _ (.cells #[.int .i64 sz, .slice none 0 0, .slice none 0 0, .slice none 0 0, .slice none 0 0, .slice none 0 0] 37))
 have n1 := (MBox.start 37 (w.alloc (.cells #[.int .i64 sz, nv, rv, cv, av, lv] 28)) #[.int .i64 0, .slice none 0 0, .slice none 0 0, .slice none 0 0, .slice none 0 0, .slice none 0 0]).step (bel_nw _ (.cells #[.int .i64 sz, .slice none 0 0, .slice none 0 0, .slice none 0 0, .slice none 0 0, .slice none 0 0] 37))
 have n2 := MBox.start 37 ((w.alloc (.cells #[.int .i64 sz, nv, rv, cv, av, lv] 28)).alloc (.cells #[.int .i64 0, .slice none 0 0, .slice none 0 0, .slice none 0 0, .slice none 0 0, .slice none 0 0] 37)) #[.int .i64 sz, .slice none 0 0, .slice none 0 0, .slice none 0 0, .slice none 0 0, .slice none 0 0]
 simp only [World.size_alloc] at n1 n2
 have zz : w.heap.size + 3 ≤ (((w.alloc (.cells #[.int .i64 sz, nv, rv, cv, av, lv] 28)).alloc (.cells #[.int .i64 0, .slice none 0 0, .slice none 0 0, .slice none 0 0, .slice none 0 0, .slice none 0 0] 37)).alloc (.cells #[.int .i64 sz, .slice none 0 0, .slice none 0 0, .slice none 0 0, .slice none 0 0, .slice none 0 0] 37)).heap.size := by simp
 have c0 := n0.cells
 have G : Hid (TW w #[.int .i64 sz, nv, rv, cv, av, lv] #[.int .i64 sz, .slice none 0 0, .slice none 0 0, .slice none 0 0, .slice none 0 0, .slice none 0 0] (((w.alloc (.cells #[.int .i64 sz, nv, rv, cv, av, lv] 28)).alloc (.cells #[.int .i64 0, .slice none 0 0, .slice none 0 0, .slice none 0 0, .slice none 0 0, .slice none 0 0] 37)).alloc (.cells #[.int .i64 sz, .slice none 0 0, .slice none 0 0, .slice none 0 0, .slice none 0 0, .slice none 0 0] 37))) := ⟨b0, zz, n0, n1, n2⟩
 clear q1 q2 q3 q4 q5 hs b0 n0 n1 n2 zz
 show Calls Try.prog 6 #[.agg #[.int .i64 sz, nv, rv, cv, av, lv]] w _
 go_enter Try.func6, Try.ntmps6
 go_wp2_with fail
 generalize (((w.alloc (.cells #[.int .i64 sz, nv, rv, cv, av, lv] 28)).alloc (.cells #[.int .i64 0, .slice none 0 0, .slice none 0 0, .slice none 0 0, .slice none 0 0, .slice none 0 0] 37)).alloc (.cells #[.int .i64 sz, .slice none 0 0, .slice none 0 0, .slice none 0 0, .slice none 0 0, .slice none 0 0] 37)) = W at *
 refine (L0.out _ G.out.1).mono ?_
 rintro e w1 ⟨z, f0, rfl, lk0, o0, p0, b0⟩
 obtain ⟨x0, hz⟩ := (Row.of_owns o0).sl
 subst hz
 have O0 : Hid (LsOwn nodC (nodOwn n) 94 23 (w.heap.size + 3) w1 (.slice x0.1 x0.2.1 x0.2.2) f0) := LsOwn.low (nodOwn_k n) ⟨o0, p0⟩ G.out.2.1
 have K0 := hq lk0
 replace G := hq (G.out.step b0)
 clear b0 o0 c0 p0 lk0
 have c0 := fun j => cell_of_cells (j := j) G.out.2.2.1
 have ff : ∀ j, w1.frozen? ⟨w.heap.size + 1 + 1, j, none⟩ = false := fun j => frozen_of_cells G.out.2.2.2.2
 have dd : ∀ j, w1.cell? ⟨w.heap.size + 1 + 1, j, none⟩ = (#[.int .i64 sz, .slice none 0 0, .slice none 0 0, .slice none 0 0, .slice none 0 0, .slice none 0 0] : Array Value)[j]? := fun j => cell_of_cells G.out.2.2.2.2
 obtain ⟨g1, g2⟩ := G.out.set 1 (.slice x0.1 x0.2.1 x0.2.2)
 have G2 : Hid (TW w #[.int .i64 sz, nv, rv, cv, av, lv] #[.int .i64 sz, .slice x0.1 x0.2.1 x0.2.2, .slice none 0 0, .slice none 0 0, .slice none 0 0, .slice none 0 0] (w1.setCell ⟨w.heap.size + 1 + 1, 1, none⟩ (.slice x0.1 x0.2.1 x0.2.2))) := by show TW _ _ _ _; simpa using g1
 replace O0 := hq (O0.out.but (nodOwn_k n) g2 (by omega))
 clear g1 g2 G c0
 have G := G2
 clear G2
 have c0 : ∀ j, (w1.setCell ⟨w.heap.size + 1 + 1, 1, none⟩ (.slice x0.1 x0.2.1 x0.2.2)).cell? ⟨w.heap.size, j, none⟩ = (#[.int .i64 sz, nv, rv, cv, av, lv] : Array Value)[j]? := fun j => cell_of_cells G.out.2.2.1
 go_upto_region 4 with fail
 clear ff dd
 generalize w1.setCell ⟨w.heap.size + 1 + 1, 1, none⟩ (.slice x0.1 x0.2.1 x0.2.2) = V1 at *
 go_wp2_with fail
 refine (L1.out _ G.out.1).mono ?_
 rintro e w2 ⟨z, f1, rfl, lk1, o1, p1, b1⟩
 obtain ⟨x1, hz⟩ := (Row.of_owns o1).sl
 subst hz
 have O1 : Hid (LsOwn rpcC (rpcOwn n) 97 15 (w.heap.size + 3) w2 (.slice x1.1 x1.2.1 x1.2.2) f1) := LsOwn.low (rpcOwn_k n) ⟨o1, p1⟩ G.out.2.1
 have K1 := hq lk1
 replace O0 := hq (O0.out.below (nodOwn_k n) b1)
 replace G := hq (G.out.step b1)
 clear b1 o1 c0 p1 lk1
 have c0 := fun j => cell_of_cells (j := j) G.out.2.2.1
 have ff : ∀ j, w2.frozen? ⟨w.heap.size + 1 + 1, j, none⟩ = false := fun j => frozen_of_cells G.out.2.2.2.2
 have dd : ∀ j, w2.cell? ⟨w.heap.size + 1 + 1, j, none⟩ = (#[.int .i64 sz, .slice x0.1 x0.2.1 x0.2.2, .slice none 0 0, .slice none 0 0, .slice none 0 0, .slice none 0 0] : Array Value)[j]? := fun j => cell_of_cells G.out.2.2.2.2
 obtain ⟨g1, g2⟩ := G.out.set 2 (.slice x1.1 x1.2.1 x1.2.2)
 have G2 : Hid (TW w #[.int .i64 sz, nv, rv, cv, av, lv] #[.int .i64 sz, .slice x0.1 x0.2.1 x0.2.2, .slice x1.1 x1.2.1 x1.2.2, .slice none 0 0, .slice none 0 0, .slice none 0 0] (w2.setCell ⟨w.heap.size + 1 + 1, 2, none⟩ (.slice x1.1 x1.2.1 x1.2.2))) := by show TW _ _ _ _; simpa using g1
 replace O0 := hq (O0.out.but (nodOwn_k n) g2 (by omega))
 replace O1 := hq (O1.out.but (rpcOwn_k n) g2 (by omega))
 clear g1 g2 G c0
 have G := G2
 clear G2
 have c0 : ∀ j, (w2.setCell ⟨w.heap.size + 1 + 1, 2, none⟩ (.slice x1.1 x1.2.1 x1.2.2)).cell? ⟨w.heap.size, j, none⟩ = (#[.int .i64 sz, nv, rv, cv, av, lv] : Array Value)[j]? := fun j => cell_of_cells G.out.2.2.1
 go_upto_region 5 with fail
 clear ff dd
 generalize w2.setCell ⟨w.heap.size + 1 + 1, 2, none⟩ (.slice x1.1 x1.2.1 x1.2.2) = V2 at *
 go_wp2_with fail
 refine (L2.out _ G.out.1).mono ?_
 rintro e w3 ⟨z, f2, rfl, lk2, o2, b2⟩
 rw [← lk2.eq] at o2
 obtain ⟨x2, hz⟩ := (Row.of_owns o2).sl
 subst hz
 have O2 : Hid (LsOwn cmdC noOwn 49 5 (w.heap.size + 3) w3 (.slice x2.1 x2.2.1 x2.2.2) D.cs) := LsOwn.low noOwn_k ⟨o2, fun _ _ => trivial⟩ G.out.2.1
 replace O0 := hq (O0.out.below (nodOwn_k n) b2)
 replace O1 := hq (O1.out.below (rpcOwn_k n) b2)
 replace G := hq (G.out.step b2)
 clear b2 o2 c0 lk2
 have c0 := fun j => cell_of_cells (j := j) G.out.2.2.1
 have ff : ∀ j, w3.frozen? ⟨w.heap.size + 1 + 1, j, none⟩ = false := fun j => frozen_of_cells G.out.2.2.2.2
 have dd : ∀ j, w3.cell? ⟨w.heap.size + 1 + 1, j, none⟩ = (#[.int .i64 sz, .slice x0.1 x0.2.1 x0.2.2, .slice x1.1 x1.2.1 x1.2.2, .slice none 0 0, .slice none 0 0, .slice none 0 0] : Array Value)[j]? := fun j => cell_of_cells G.out.2.2.2.2
 obtain ⟨g1, g2⟩ := G.out.set 3 (.slice x2.1 x2.2.1 x2.2.2)
 have G2 : Hid (TW w #[.int .i64 sz, nv, rv, cv, av, lv] #[.int .i64 sz, .slice x0.1 x0.2.1 x0.2.2, .slice x1.1 x1.2.1 x1.2.2, .slice x2.1 x2.2.1 x2.2.2, .slice none 0 0, .slice none 0 0] (w3.setCell ⟨w.heap.size + 1 + 1, 3, none⟩ (.slice x2.1 x2.2.1 x2.2.2))) := by show TW _ _ _ _; simpa using g1
 replace O0 := hq (O0.out.but (nodOwn_k n) g2 (by omega))
 replace O1 := hq (O1.out.but (rpcOwn_k n) g2 (by omega))
 replace O2 := hq (O2.out.but noOwn_k g2 (by omega))
 clear g1 g2 G c0
 have G := G2
 clear G2
 have c0 : ∀ j, (w3.setCell ⟨w.heap.size + 1 + 1, 3, none⟩ (.slice x2.1 x2.2.1 x2.2.2)).cell? ⟨w.heap.size, j, none⟩ = (#[.int .i64 sz, nv, rv, cv, av, lv] : Array Value)[j]? := fun j => cell_of_cells G.out.2.2.1
 go_upto_region 6 with fail
 clear ff dd
 generalize w3.setCell ⟨w.heap.size + 1 + 1, 3, none⟩ (.slice x2.1 x2.2.1 x2.2.2) = V3 at *
 go_wp2_with fail
 refine (L3.out _ G.out.1).mono ?_
 rintro e w4 ⟨z, rfl, o3, b3⟩
 obtain ⟨x3, hz⟩ := (Row.of_owns o3).sl
 subst hz
 have O3 : Hid (w4.ownsRow (w.heap.size + 3) 104 4 (.slice x3.1 x3.2.1 x3.2.2) D.ds.length (flatD D.ds)) := owns_mono o3 G.out.2.1
 replace O0 := hq (O0.out.below (nodOwn_k n) b3)
 replace O1 := hq (O1.out.below (rpcOwn_k n) b3)
 replace O2 := hq (O2.out.below noOwn_k b3)
 replace G := hq (G.out.step b3)
 clear b3 o3 c0
 have c0 := fun j => cell_of_cells (j := j) G.out.2.2.1
 have ff : ∀ j, w4.frozen? ⟨w.heap.size + 1 + 1, j, none⟩ = false := fun j => frozen_of_cells G.out.2.2.2.2
 have dd : ∀ j, w4.cell? ⟨w.heap.size + 1 + 1, j, none⟩ = (#[.int .i64 sz, .slice x0.1 x0.2.1 x0.2.2, .slice x1.1 x1.2.1 x1.2.2, .slice x2.1 x2.2.1 x2.2.2, .slice none 0 0, .slice none 0 0] : Array Value)[j]? := fun j => cell_of_cells G.out.2.2.2.2
 obtain ⟨g1, g2⟩ := G.out.set 4 (.slice x3.1 x3.2.1 x3.2.2)
 have G2 : Hid (TW w #[.int .i64 sz, nv, rv, cv, av, lv] #[.int .i64 sz, .slice x0.1 x0.2.1 x0.2.2, .slice x1.1 x1.2.1 x1.2.2, .slice x2.1 x2.2.1 x2.2.2, .slice x3.1 x3.2.1 x3.2.2, .slice none 0 0] (w4.setCell ⟨w.heap.size + 1 + 1, 4, none⟩ (.slice x3.1 x3.2.1 x3.2.2))) := by show TW _ _ _ _; simpa using g1
 replace O0 := hq (O0.out.but (nodOwn_k n) g2 (by omega))
 replace O1 := hq (O1.out.but (rpcOwn_k n) g2 (by omega))
 replace O2 := hq (O2.out.but noOwn_k g2 (by omega))
 replace O3 := hq (owns_but O3.out g2 (by omega))
 clear g1 g2 G c0
 have G := G2
 clear G2
 have c0 : ∀ j, (w4.setCell ⟨w.heap.size + 1 + 1, 4, none⟩ (.slice x3.1 x3.2.1 x3.2.2)).cell? ⟨w.heap.size, j, none⟩ = (#[.int .i64 sz, nv, rv, cv, av, lv] : Array Value)[j]? := fun j => cell_of_cells G.out.2.2.1
 go_upto_region 7 with fail
 clear ff dd
 generalize w4.setCell ⟨w.heap.size + 1 + 1, 4, none⟩ (.slice x3.1 x3.2.1 x3.2.2) = V4 at *
 go_wp2_with fail
 refine (L4.out _ G.out.1).mono ?_
 rintro e w5 ⟨z, f4, rfl, lk4, o4, b4⟩
 rw [← lk4.eq] at o4
 obtain ⟨x4, hz⟩ := (Row.of_owns o4).sl
 subst hz
 have O4 : Hid (LsOwn ledC noOwn 108 2 (w.heap.size + 3) w5 (.slice x4.1 x4.2.1 x4.2.2) D.ls) := LsOwn.low noOwn_k ⟨o4, fun _ _ => trivial⟩ G.out.2.1
 replace O0 := hq (O0.out.below (nodOwn_k n) b4)
 replace O1 := hq (O1.out.below (rpcOwn_k n) b4)
 replace O2 := hq (O2.out.below noOwn_k b4)
 replace O3 := hq (owns_below O3.out b4)
 replace G := hq (G.out.step b4)
 clear b4 o4 c0 lk4
 have c0 := fun j => cell_of_cells (j := j) G.out.2.2.1
 have ff : ∀ j, w5.frozen? ⟨w.heap.size + 1 + 1, j, none⟩ = false := fun j => frozen_of_cells G.out.2.2.2.2
 have dd : ∀ j, w5.cell? ⟨w.heap.size + 1 + 1, j, none⟩ = (#[.int .i64 sz, .slice x0.1 x0.2.1 x0.2.2, .slice x1.1 x1.2.1 x1.2.2, .slice x2.1 x2.2.1 x2.2.2, .slice x3.1 x3.2.1 x3.2.2, .slice none 0 0] : Array Value)[j]? := fun j => cell_of_cells G.out.2.2.2.2
 obtain ⟨g1, g2⟩ := G.out.set 5 (.slice x4.1 x4.2.1 x4.2.2)
 have G2 : Hid (TW w #[.int .i64 sz, nv, rv, cv, av, lv] #[.int .i64 sz, .slice x0.1 x0.2.1 x0.2.2, .slice x1.1 x1.2.1 x1.2.2, .slice x2.1 x2.2.1 x2.2.2, .slice x3.1 x3.2.1 x3.2.2, .slice x4.1 x4.2.1 x4.2.2] (w5.setCell ⟨w.heap.size + 1 + 1, 5, none⟩ (.slice x4.1 x4.2.1 x4.2.2))) := by show TW _ _ _ _; simpa using g1
 replace O0 := hq (O0.out.but (nodOwn_k n) g2 (by omega))
 replace O1 := hq (O1.out.but (rpcOwn_k n) g2 (by omega))
 replace O2 := hq (O2.out.but noOwn_k g2 (by omega))
 replace O3 := hq (owns_but O3.out g2 (by omega))
 replace O4 := hq (O4.out.but noOwn_k g2 (by omega))
 clear g1 g2 G c0
 have G := G2
 clear G2
 have c0 : ∀ j, (w5.setCell ⟨w.heap.size + 1 + 1, 5, none⟩ (.slice x4.1 x4.2.1 x4.2.2)).cell? ⟨w.heap.size, j, none⟩ = (#[.int .i64 sz, nv, rv, cv, av, lv] : Array Value)[j]? := fun j => cell_of_cells G.out.2.2.1
 go_upto_region 8 with fail
 clear ff dd
 generalize w5.setCell ⟨w.heap.size + 1 + 1, 5, none⟩ (.slice x4.1 x4.2.1 x4.2.2) = V at *
 obtain ⟨cs, hcs⟩ : ∃ cs : List Value, cs = [.int .i64 sz, .slice x0.1 x0.2.1 x0.2.2, .slice x1.1 x1.2.1 x1.2.2, .slice x2.1 x2.2.1 x2.2.2, .slice x3.1 x3.2.1 x3.2.2, .slice x4.1 x4.2.1 x4.2.2] := ⟨_, rfl⟩
 have RG : Hid (V.rangeAt (w.heap.size + 1 + 1) 0 cs) := by rw [hcs]; exact range_of G.out.2.2.2.2
 have TH : Hid (V.there (w.heap.size + 1) 0 cs.toArray.size) := by rw [hcs]; exact there_of G.out.2.2.2.1 rfl
 have HI : Hid ((Try.prog.info? 37).map (·.size) = some cs.length) := by rw [hcs]; exact (show (Try.prog.info? 37).map (·.size) = some 6 by kernel_rfl)
 have ONE : Hid (cs.toArray.all (·.oneCell') = true) := by rw [hcs]; show _ = _; simp [Value.oneCell']
 have GC : Chg (fun g => g = w.heap.size + 1) V (V.setCells (w.heap.size + 1) 0 cs) := Chg.setCells (F := fun b => b = w.heap.size + 1) (g := w.heap.size + 1) (fun _ => rfl) cs 0 V (Chg.refl _ _)
 have X1 : Hid ((V.setCells (w.heap.size + 1) 0 cs).heap[w.heap.size + 1]? = some (.cells cs.toArray 37 (0, 0))) := setAll_at G.out.2.2.2.1 cs (by rw [hcs]; rfl)
 have BF := hq (G.out.1.trans (GC.below (fun g _ hg => by omega) G.out.1.size))
 have W1 : Hid (WrOwn n (V.setCells (w.heap.size + 1) 0 cs) w.heap.size ⟨sz, .slice x0.1 x0.2.1 x0.2.2, .slice x1.1 x1.2.1 x1.2.2, .slice x2.1 x2.2.1 x2.2.2, .slice x3.1 x3.2.1 x3.2.2, .slice x4.1 x4.2.1 x4.2.2⟩ ⟨f0, f1, D.cs, D.ds, D.ls⟩) :=
  ⟨(O0.out.but (nodOwn_k n) GC (by omega)).low (nodOwn_k n) (by omega), (O1.out.but (rpcOwn_k n) GC (by omega)).low (rpcOwn_k n) (by omega), (O2.out.but noOwn_k GC (by omega)).low noOwn_k (by omega), owns_mono (owns_but O3.out GC (by omega)) (by omega), (O4.out.but noOwn_k GC (by omega)).low noOwn_k (by omega)⟩
 have LKF : Hid (D.like ⟨f0, f1, D.cs, D.ds, D.ls⟩) := ⟨K0.out, K1.out, rfl, rfl, rfl⟩
 have MV : Hid (Value.agg cs.toArray = (⟨sz, .slice x0.1 x0.2.1 x0.2.2, .slice x1.1 x1.2.1 x1.2.2, .slice x2.1 x2.2.1 x2.2.2, .slice x3.1 x3.2.1 x3.2.2, .slice x4.1 x4.2.1 x4.2.2⟩ : WrV).val) := by rw [hcs]; rfl
 clear hcs GC G O0 O1 O2 O3 O4 K0 K1 c0
 go_wp2_with (first | (refine wpList_load_mid rfl 37 _ rfl (w.heap.size + 1 + 1) 0 rfl cs _ RG.out Try.underlying37 rfl HI.out ?_) | (refine wpList_store_mid rfl 37 _ _ rfl (w.heap.size + 1) 0 cs.toArray rfl rfl TH.out HI.out ONE.out ?_))
 generalize V.setCells (w.heap.size + 1) 0 cs = WF at *
 exact ⟨rfl, _, results_cell_row Try.results6 _ WF (w.heap.size + 1) 37 cs.toArray (0, 0) _ rfl X1.out Try.underlying37 rfl HI.out, ⟨_, _, by rw [MV.out], rfl, LKF.out, W1.out, BF.out⟩⟩
end
section
open Go.RowKit

def isC (cl sq : Int) (e : CmdE) : Bool := decide (e.1 = cl) && decide (e.2.1 = sq)
def FirstP (cl sq : Int) (es : List CmdE) (r : Int) : Prop := (∃ k : Nat, k < es.length ∧ r = k ∧ (∀ h : k < es.length, isC cl sq es[k] = true) ∧ ∀ i (hi : i < es.length), i < k → isC cl sq es[i] = false) ∨ (r = -1 ∧ ∀ i (hi : i < es.length), isC cl sq es[i] = false)
theorem FirstP.one {cl sq : Int} {es : List CmdE} {a b : Int} (h : FirstP cl sq es a) (k : FirstP cl sq es b) : a = b := by
 rcases h with ⟨x, hx, rfl, h1, h2⟩ | ⟨rfl, h1⟩
 ·rcases k with ⟨y, hy, rfl, k1, k2⟩ | ⟨rfl, k1⟩
  ·rcases Nat.lt_trichotomy x y with e | e | e
   ·have := h1 hx; rw [k2 x hx e] at this; cases this
   ·rw [e]
   ·have := k1 hy; rw [h2 y hy e] at this; cases this
  ·have := h1 hx; rw [k1 x hx] at this; cases this
 ·rcases k with ⟨y, hy, rfl, k1, k2⟩ | ⟨rfl, k1⟩
  ·have := k1 hy; rw [h1 y hy] at this; cases this
  ·rfl
theorem isC_c {cl sq : Int} {e : CmdE} (h : e.1 ≠ cl) : isC cl sq e = false := by simp [isC, h]
theorem isC_s {cl sq : Int} {e : CmdE} (h : e.2.1 ≠ sq) : isC cl sq e = false := by simp [isC, h]
theorem isC_t {cl sq : Int} {e : CmdE} (h : e.1 = cl) (k : e.2.1 = sq) : isC cl sq e = true := by simp [isC, h, k]
theorem none_more {cl sq : Int} {es : List CmdE} {k : Nat} (h : ∀ i (hi : i < es.length), i < k → isC cl sq es[i] = false) (h1 : ∀ hk : k < es.length, isC cl sq es[k] = false) : ∀ i (hi : i < es.length), i < k + 1 → isC cl sq es[i] = false := fun i hi hl => by
 rcases Nat.lt_or_ge i k with e | e
 ·exact h i hi e
 ·have : i = k := by omega
  subst this
  exact h1 hi

theorem specFirstOf_t (n : Nat) (W : WrV) (D : Wd) (cl sq : Int) (w : World) (h : WrAt n w W D) :
  Calls Try.prog 5 #[W.val, .int .i64 cl, .int .i64 sq] w fun e w' => ∃ r : Int, e = .returned (.int .i64 r) ∧ FirstP cl sq D.cs r ∧ Below w.heap.size w w' := by
 obtain ⟨sz, nv, rv, cv, av, lv⟩ := W
 obtain ⟨q1, q2, q3, q4, q5⟩ := h
 obtain ⟨ca, cb, co, cc, hc, _, hcm, hca, CR0⟩ := q3.parts (K := 5) (fun _ => rfl)
 obtain ⟨A1, C1, e1, _⟩ := q1.len
 obtain ⟨A2, C2, e2, _⟩ := q2.len
 obtain ⟨A4, C4, e4, _⟩ := q4.len
 obtain ⟨A5, C5, e5, _⟩ := q5.len
 simp only at hc e1 e2 e4 e5
 subst hc e1 e2 e4 e5
 unfold maxLen at hcm
 have N1 : MBox 37 (w.alloc (.cells #[.int .i64 sz, .slice A1 D.ns.length C1, .slice A2 D.rs.length C2, .slice ca D.cs.length cc, .slice A4 D.ds.length C4, .slice A5 D.ls.length C5] 37)) w.heap.size #[.int .i64 sz, .slice A1 D.ns.length C1, .slice A2 D.rs.length C2, .slice ca D.cs.length cc, .slice A4 D.ds.length C4, .slice A5 D.ls.length C5] := MBox.start _ w _
 have B1 : Hid (Below w.heap.size w (w.alloc (.cells #[.int .i64 sz, .slice A1 D.ns.length C1, .slice A2 D.rs.length C2, .slice ca D.cs.length cc, .slice A4 D.ds.length C4, .slice A5 D.ls.length C5] 37))) := bel_nw _ _
 have CR := hq (fun u (hu : Below (w.alloc (.cells #[.int .i64 sz, .slice A1 D.ns.length C1, .slice A2 D.rs.length C2, .slice ca D.cs.length cc, .slice A4 D.ds.length C4, .slice A5 D.ls.length C5] 37)).heap.size (w.alloc (.cells #[.int .i64 sz, .slice A1 D.ns.length C1, .slice A2 D.rs.length C2, .slice ca D.cs.length cc, .slice A4 D.ds.length C4, .slice A5 D.ls.length C5] 37)) u) => CR0 u (Below.and B1.out hu))
 have KB : Hid (∀ u, Below (w.alloc (.cells #[.int .i64 sz, .slice A1 D.ns.length C1, .slice A2 D.rs.length C2, .slice ca D.cs.length cc, .slice A4 D.ds.length C4, .slice A5 D.ls.length C5] 37)).heap.size (w.alloc (.cells #[.int .i64 sz, .slice A1 D.ns.length C1, .slice A2 D.rs.length C2, .slice ca D.cs.length cc, .slice A4 D.ds.length C4, .slice A5 D.ls.length C5] 37)) u → u.cell? ⟨w.heap.size, 3, none⟩ = some (.slice ca D.cs.length cc)) := fun u hu => by
  have c := (N1.step hu).cells
  rw [c]; rfl
 have HCA := hq hca
 clear q1 q2 q3 q4 q5 CR0 N1 hca
 show Calls Try.prog 5 #[.agg #[.int .i64 sz, .slice A1 D.ns.length C1, .slice A2 D.rs.length C2, .slice ca D.cs.length cc, .slice A4 D.ds.length C4, .slice A5 D.ls.length C5], .int .i64 cl, .int .i64 sq] w _
 go_enter Try.func5, Try.ntmps5
 go_upto_region 1 with fail
 generalize w.alloc (.cells #[.int .i64 sz, .slice A1 D.ns.length C1, .slice A2 D.rs.length C2, .slice ca D.cs.length cc, .slice A4 D.ds.length C4, .slice A5 D.ls.length C5] 37) = V at *
 go_wp2
 go_loopw [7] (fun i wr => ∃ k : Nat, k ≤ D.cs.length ∧ i = .int .i64 k ∧ Hid (∀ i (hi : i < D.cs.length), i < k → isC cl sq D.cs[i] = false) ∧ Hid (Below V.heap.size V wr)) (fun i _ => D.cs.length - (intOf i).toNat)
 case atStart => exact ⟨0, Nat.zero_le _, rfl, (fun i _ h => absurd h (Nat.not_lt_zero _)), Below.refl _ _⟩
 case round =>
  obtain ⟨k, hk, rfl, NO, BW⟩ := hrel
  have c3 := KB.out wr BW.out
  by_cases hlt : k < D.cs.length
  ·have hal := HCA.out (by omega)
   subst hal
   have hi2 : (k : Int) < (D.cs.length : Int) := by omega
   have RU := CR.out wr BW.out k hlt
   have s0 := RU 0 _ rfl
   have s1 := RU 1 _ rfl
   simp only [Nat.add_zero] at s0
   have TC := hq (fun (a : D.cs[k].1 = cl) (b : D.cs[k].2.1 = sq) => isC_t a b)
   have TN := hq (fun (a : D.cs[k].1 ≠ cl) => isC_c (sq := sq) a)
   have TS := hq (fun (a : D.cs[k].2.1 ≠ sq) => isC_s (cl := cl) a)
   clear RU
   generalize D.cs[k].1 = x1 at *
   generalize D.cs[k].2.1 = x2 at *
   by_cases p1 : x1 = cl
   ·by_cases p2 : x2 = sq
    ·have FIN := hq (TC.out p1 p2)
     have g1 : (x1 == cl) = true := by simpa using p1
     have g2 : (x2 == sq) = true := by simpa using p2
     clear TC TN TS
     go_wp2
     go_ret
     exact ⟨_, rfl, .inl ⟨k, hlt, rfl, fun _ => FIN.out, NO.out⟩, Below.and B1.out BW.out⟩
    ·have FIN := hq (TS.out p2)
     have g1 : (x1 == cl) = true := by simpa using p1
     have g2 : (x2 == sq) = false := by simpa using p2
     clear TC TN TS
     go_wp2
     go_roundw
     case rel => exact ⟨k + 1, by omega, by go_num, none_more NO.out (fun _ => FIN.out), BW.out⟩
     case measure => simp [intOf]; omega
   ·have FIN := hq (TN.out p1)
    have g1 : (x1 == cl) = false := by simpa using p1
    clear TC TN TS
    go_wp2
    go_roundw
    case rel => exact ⟨k + 1, by omega, by go_num, none_more NO.out (fun _ => FIN.out), BW.out⟩
    case measure => simp [intOf]; omega
  ·have hi : ¬ (k : Int) < (D.cs.length : Int) := by omega
   go_wp2
   go_ret
   exact ⟨_, rfl, .inr ⟨rfl, fun i hi => NO.out i hi (by omega)⟩, Below.and B1.out BW.out⟩
end
end Go.Proofs.Ythfmifdpldmbaaa
