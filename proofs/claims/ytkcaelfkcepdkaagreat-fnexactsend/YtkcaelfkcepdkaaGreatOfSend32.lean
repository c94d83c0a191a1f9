/-
  toWorld: what comes lies in memory of its own, list by list in stretches of blocks.
-/
import Derived.Test.YtkcaelfkcepdkaaGreatOfSend12
import Derived.Test.YtkcaelfkcepdkaaGreatOfSend30
import Derived.Test.YtkcaelfkcepdkaaGreatOfSend31
namespace Go.Proofs.YtkcaelfkcepdkaaGreat
set_option maxRecDepth 100000
set_option maxHeartbeats 8000000
section
open Go.RowKit

theorem lsI_flat {ε : Type} {cs : ε → List Value} {d : ε} {ty K : Nat} {w : World} {lo : Nat} {v : Value} {es : List ε} (h : w.ownsRow lo ty K v es.length (es.map cs).flatten) (hl : lo ≤ w.heap.size) : LsI cs noI d ty K w lo w.heap.size v es := by
 have ho : OwnE w lo ty K v es.length (es.map cs).flatten := .inl h
 exact ⟨ho, fun g hg => (ho.lt g hg).2, hl, Nat.le_refl _, fun _ => lo, fun _ => lo, fun _ _ => ⟨Nat.le_refl _, Nat.le_refl _, hl, trivial, fun g g1 g2 => by omega⟩, fun _ _ _ _ => Nat.le_refl _⟩
def WrI (n : Nat) (w : World) (lo hi : Nat) (W : WrV) (D : Wd) : Prop :=
 ∃ a b : Nat → Nat, (∀ i, i < 5 → lo ≤ a i ∧ b i ≤ hi) ∧ (∀ i j, i < 5 → j < 5 → i ≠ j → b i ≤ a j ∨ b j ≤ a i) ∧ hi ≤ w.heap.size ∧
  LsI nodC (nodI n) noNod 73 23 w (a 0) (b 0) W.nv D.ns ∧ LsI rpcC (rpcI n) noRpc 87 15 w (a 1) (b 1) W.rv D.rs ∧ LsI cmdC noI noCmd 117 5 w (a 2) (b 2) W.cv D.cs ∧ OwnI w (a 3) (b 3) 141 4 W.av D.ds.length (flatD D.ds) ∧ LsI ledC noI noLead 121 2 w (a 4) (b 4) W.lv D.ls
theorem WrI.chg {n : Nat} {w w' : World} {lo hi : Nat} {W : WrV} {D : Wd} {P : Nat → Prop} (h : WrI n w lo hi W D) (hc : Chg P w w') (hP : ∀ g, lo ≤ g → g < hi → ¬ P g) : WrI n w' lo hi W D := by
 obtain ⟨a, b, h1, h2, h3, o0, o1, o2, o3, o4⟩ := h
 have k0 := h1 0 (by omega)
 have k1 := h1 1 (by omega)
 have k2 := h1 2 (by omega)
 have k3 := h1 3 (by omega)
 have k4 := h1 4 (by omega)
 exact ⟨a, b, h1, h2, Nat.le_trans h3 hc.size, LsI.chg (nodI_k n) o0 hc (fun g g1 g2 e => hP g (by omega) (by omega) e), LsI.chg (rpcI_k n) o1 hc (fun g g1 g2 e => hP g (by omega) (by omega) e), LsI.chg noI_k o2 hc (fun g g1 g2 e => hP g (by omega) (by omega) e), o3.chg hc (fun g g1 g2 e => hP g (by omega) (by omega) e), LsI.chg noI_k o4 hc (fun g g1 g2 e => hP g (by omega) (by omega) e)⟩
theorem WrI.below {n : Nat} {w w' : World} {lo hi : Nat} {W : WrV} {D : Wd} (h : WrI n w lo hi W D) (hb : Below w.heap.size w w') : WrI n w' lo hi W D := h.chg (Chg.of_below (F := fun _ => False) hb) (fun _ _ _ e => e)
theorem WrI.at {n : Nat} {w : World} {lo hi : Nat} {W : WrV} {D : Wd} (h : WrI n w lo hi W D) : WrAt n w W D := by
 obtain ⟨a, b, _, _, _, o0, o1, o2, o3, o4⟩ := h
 exact ⟨o0.at (fun _ _ _ _ h => NodA.at h), o1.at (fun _ _ _ _ h => RpcA.at h), o2.at (fun _ _ _ _ _ => trivial), o3.row, o4.at (fun _ _ _ _ _ => trivial)⟩

theorem toWorld_d (n : Nat) (W : WrV) (D : Wd) (w : World) (h : WrAt n w W D) (hs : D.small n) :
  Calls Tryz.prog 8 #[W.val] w fun e w' => ∃ (V : WrV) (E : Wd), e = .returned V.val ∧ W.sz = V.sz ∧ D.like E ∧ WrI n w' w.heap.size w'.heap.size V E ∧ Below w.heap.size w w' := by
 obtain ⟨sz, nv, rv, cv, av, lv⟩ := W
 obtain ⟨q1, q2, q3, q4, q5⟩ := h
 have L0 := hq (fun u (hu : Below w.heap.size w u) => toNodeS_d n nv D.ns u (q1.below (nodAt_b n) hu) hs.n1 hs.n)
 have L1 := hq (fun u (hu : Below w.heap.size w u) => toRpcS_d n rv D.rs u (q2.below (rpcAt_b n) hu) hs.r1 hs.r)
 have L2 := hq (fun u (hu : Below w.heap.size w u) => toCmdS_own cv D.cs u (q3.below noAt_b hu) hs.c)
 have L3 := hq (fun u (hu : Below w.heap.size w u) => toDoneS_any av D.ds u (q4.below hu) hs.d)
 have L4 := hq (fun u (hu : Below w.heap.size w u) => toLeadS_own lv D.ls u (q5.below noAt_b hu) hs.l)
 have b0 : Below w.heap.size w (((w.alloc (.cells #[.int .i64 sz, nv, rv, cv, av, lv] 28)).alloc (.cells #[.int .i64 0, .slice none 0 0, .slice none 0 0, .slice none 0 0, .slice none 0 0, .slice none 0 0] 37)).alloc (.cells #[.int .i64 sz, .slice none 0 0, .slice none 0 0, .slice none 0 0, .slice none 0 0, .slice none 0 0] 37)) := (((Below.refl _ _).alloc (Nat.le_refl _) _).alloc (by simp) _).alloc (by simp; omega) _
 have n0 := ((MBox.start 28 w #[.int .i64 sz, nv, rv, cv, av, lv]).step (bel_nw _ (.cells #[.int .i64 0, .slice none 0 0, .slice none 0 0, .slice none 0 0, .slice none 0 0, .slice none 0 0] 37))).step (bel_nw _ (.cells #[.int .i64 sz, .slice none 0 0, .slice none 0 0, .slice none 0 0, .slice none 0 0, .slice none 0 0] 37))
 have n1 := (MBox.start 37 (w.alloc (.cells #[.int .i64 sz, nv, rv, cv, av, lv] 28)) #[.int .i64 0, .slice none 0 0, .slice none 0 0, .slice none 0 0, .slice none 0 0, .slice none 0 0]).step (bel_nw _ (.cells #[.int .i64 sz, .slice none 0 0, .slice none 0 0, .slice none 0 0, .slice none 0 0, .slice none 0 0] 37))
 have n2 := MBox.start 37 ((w.alloc (.cells #[.int .i64 sz, nv, rv, cv, av, lv] 28)).alloc (.cells #[.int .i64 0, .slice none 0 0, .slice none 0 0, .slice none 0 0, .slice none 0 0, .slice none 0 0] 37)) #[.int .i64 sz, .slice none 0 0, .slice none 0 0, .slice none 0 0, .slice none 0 0, .slice none 0 0]
 simp only [World.size_alloc] at n1 n2
 have zz : w.heap.size + 3 ≤ (((w.alloc (.cells #[.int .i64 sz, nv, rv, cv, av, lv] 28)).alloc (.cells #[.int .i64 0, .slice none 0 0, .slice none 0 0, .slice none 0 0, .slice none 0 0, .slice none 0 0] 37)).alloc (.cells #[.int .i64 sz, .slice none 0 0, .slice none 0 0, .slice none 0 0, .slice none 0 0, .slice none 0 0] 37)).heap.size := by simp
 have c0 := n0.cells
 have G : Hid (TW w #[.int .i64 sz, nv, rv, cv, av, lv] #[.int .i64 sz, .slice none 0 0, .slice none 0 0, .slice none 0 0, .slice none 0 0, .slice none 0 0] (((w.alloc (.cells #[.int .i64 sz, nv, rv, cv, av, lv] 28)).alloc (.cells #[.int .i64 0, .slice none 0 0, .slice none 0 0, .slice none 0 0, .slice none 0 0, .slice none 0 0] 37)).alloc (.cells #[.int .i64 sz, .slice none 0 0, .slice none 0 0, .slice none 0 0, .slice none 0 0, .slice none 0 0] 37))) := ⟨b0, zz, n0, n1, n2⟩
 clear q1 q2 q3 q4 q5 hs b0 n0 n1 n2 zz
 show Calls Tryz.prog 8 #[.agg #[.int .i64 sz, nv, rv, cv, av, lv]] w _
 go_enter Tryz.func8, Tryz.ntmps8
 go_wp2_with fail
 generalize (((w.alloc (.cells #[.int .i64 sz, nv, rv, cv, av, lv] 28)).alloc (.cells #[.int .i64 0, .slice none 0 0, .slice none 0 0, .slice none 0 0, .slice none 0 0, .slice none 0 0] 37)).alloc (.cells #[.int .i64 sz, .slice none 0 0, .slice none 0 0, .slice none 0 0, .slice none 0 0, .slice none 0 0] 37)) = V0 at *
 have SZ0 : Hid (w.heap.size + 3 ≤ V0.heap.size) := G.out.2.1
 refine (L0.out _ G.out.1).mono ?_
 rintro e w1 ⟨z, f0, rfl, lk0, o0, b0⟩
 obtain ⟨x0, hz⟩ := o0.1.rowF.row.sl
 subst hz
 have O0 : Hid (LsI nodC (nodI n) noNod 73 23 w1 V0.heap.size w1.heap.size (.slice x0.1 x0.2.1 x0.2.2) f0) := o0
 have SB0 : Hid (V0.heap.size ≤ w1.heap.size) := b0.size
 have K0 := hq lk0
 replace G := hq (G.out.step b0)
 clear b0 o0 c0 lk0
 have c0 := fun j => cell_of_cells (j := j) G.out.2.2.1
 have ff : ∀ j, w1.frozen? ⟨w.heap.size + 1 + 1, j, none⟩ = false := fun j => frozen_of_cells G.out.2.2.2.2
 have dd : ∀ j, w1.cell? ⟨w.heap.size + 1 + 1, j, none⟩ = (#[.int .i64 sz, .slice none 0 0, .slice none 0 0, .slice none 0 0, .slice none 0 0, .slice none 0 0] : Array Value)[j]? := fun j => cell_of_cells G.out.2.2.2.2
 obtain ⟨g1, g2⟩ := G.out.set 1 (.slice x0.1 x0.2.1 x0.2.2)
 have G2 : Hid (TW w #[.int .i64 sz, nv, rv, cv, av, lv] #[.int .i64 sz, .slice x0.1 x0.2.1 x0.2.2, .slice none 0 0, .slice none 0 0, .slice none 0 0, .slice none 0 0] (w1.setCell ⟨w.heap.size + 1 + 1, 1, none⟩ (.slice x0.1 x0.2.1 x0.2.2))) := by show TW _ _ _ _; simpa using g1
 have szz := g2.size
 have tt := SZ0.out
 replace O0 := hq (LsI.chg (nodI_k n) O0.out g2 (fun g g1 g2 e => by omega))
 have SC1 : Hid (w1.heap.size ≤ (w1.setCell ⟨w.heap.size + 1 + 1, 1, none⟩ (.slice x0.1 x0.2.1 x0.2.2)).heap.size) := szz
 clear g1 g2 G c0 szz tt
 have G := G2
 clear G2
 have c0 : ∀ j, (w1.setCell ⟨w.heap.size + 1 + 1, 1, none⟩ (.slice x0.1 x0.2.1 x0.2.2)).cell? ⟨w.heap.size, j, none⟩ = (#[.int .i64 sz, nv, rv, cv, av, lv] : Array Value)[j]? := fun j => cell_of_cells G.out.2.2.1
 go_upto_region 4 with fail
 clear ff dd
 generalize w1.setCell ⟨w.heap.size + 1 + 1, 1, none⟩ (.slice x0.1 x0.2.1 x0.2.2) = V1 at *
 go_wp2_with fail
 refine (L1.out _ G.out.1).mono ?_
 rintro e w2 ⟨z, f1, rfl, lk1, o1, b1⟩
 obtain ⟨x1, hz⟩ := o1.1.rowF.row.sl
 subst hz
 have O1 : Hid (LsI rpcC (rpcI n) noRpc 87 15 w2 V1.heap.size w2.heap.size (.slice x1.1 x1.2.1 x1.2.2) f1) := o1
 have SB1 : Hid (V1.heap.size ≤ w2.heap.size) := b1.size
 have K1 := hq lk1
 replace O0 := hq (LsI.below (nodI_k n) O0.out b1)
 replace G := hq (G.out.step b1)
 clear b1 o1 c0 lk1
 have c0 := fun j => cell_of_cells (j := j) G.out.2.2.1
 have ff : ∀ j, w2.frozen? ⟨w.heap.size + 1 + 1, j, none⟩ = false := fun j => frozen_of_cells G.out.2.2.2.2
 have dd : ∀ j, w2.cell? ⟨w.heap.size + 1 + 1, j, none⟩ = (#[.int .i64 sz, .slice x0.1 x0.2.1 x0.2.2, .slice none 0 0, .slice none 0 0, .slice none 0 0, .slice none 0 0] : Array Value)[j]? := fun j => cell_of_cells G.out.2.2.2.2
 obtain ⟨g1, g2⟩ := G.out.set 2 (.slice x1.1 x1.2.1 x1.2.2)
 have G2 : Hid (TW w #[.int .i64 sz, nv, rv, cv, av, lv] #[.int .i64 sz, .slice x0.1 x0.2.1 x0.2.2, .slice x1.1 x1.2.1 x1.2.2, .slice none 0 0, .slice none 0 0, .slice none 0 0] (w2.setCell ⟨w.heap.size + 1 + 1, 2, none⟩ (.slice x1.1 x1.2.1 x1.2.2))) := by show TW _ _ _ _; simpa using g1
 have szz := g2.size
 have tt := SZ0.out
 replace O0 := hq (LsI.chg (nodI_k n) O0.out g2 (fun g g1 g2 e => by omega))
 replace O1 := hq (LsI.chg (rpcI_k n) O1.out g2 (fun g g1 g2 e => by have := SC1.out; have := SB0.out; omega))
 have SC2 : Hid (w2.heap.size ≤ (w2.setCell ⟨w.heap.size + 1 + 1, 2, none⟩ (.slice x1.1 x1.2.1 x1.2.2)).heap.size) := szz
 clear g1 g2 G c0 szz tt
 have G := G2
 clear G2
 have c0 : ∀ j, (w2.setCell ⟨w.heap.size + 1 + 1, 2, none⟩ (.slice x1.1 x1.2.1 x1.2.2)).cell? ⟨w.heap.size, j, none⟩ = (#[.int .i64 sz, nv, rv, cv, av, lv] : Array Value)[j]? := fun j => cell_of_cells G.out.2.2.1
 go_upto_region 5 with fail
 clear ff dd
 generalize w2.setCell ⟨w.heap.size + 1 + 1, 2, none⟩ (.slice x1.1 x1.2.1 x1.2.2) = V2 at *
 go_wp2_with fail
 refine (L2.out _ G.out.1).mono ?_
 rintro e w3 ⟨z, f2, rfl, lk2, o2, b2⟩
 rw [← lk2.eq] at o2
 obtain ⟨x2, hz⟩ := (Row.of_owns o2).sl
 subst hz
 have O2 : Hid (LsI cmdC noI noCmd 117 5 w3 V2.heap.size w3.heap.size (.slice x2.1 x2.2.1 x2.2.2) D.cs) := lsI_flat o2 b2.size
 have SB2 : Hid (V2.heap.size ≤ w3.heap.size) := b2.size
 replace O0 := hq (LsI.below (nodI_k n) O0.out b2)
 replace O1 := hq (LsI.below (rpcI_k n) O1.out b2)
 replace G := hq (G.out.step b2)
 clear b2 o2 c0 lk2
 have c0 := fun j => cell_of_cells (j := j) G.out.2.2.1
 have ff : ∀ j, w3.frozen? ⟨w.heap.size + 1 + 1, j, none⟩ = false := fun j => frozen_of_cells G.out.2.2.2.2
 have dd : ∀ j, w3.cell? ⟨w.heap.size + 1 + 1, j, none⟩ = (#[.int .i64 sz, .slice x0.1 x0.2.1 x0.2.2, .slice x1.1 x1.2.1 x1.2.2, .slice none 0 0, .slice none 0 0, .slice none 0 0] : Array Value)[j]? := fun j => cell_of_cells G.out.2.2.2.2
 obtain ⟨g1, g2⟩ := G.out.set 3 (.slice x2.1 x2.2.1 x2.2.2)
 have G2 : Hid (TW w #[.int .i64 sz, nv, rv, cv, av, lv] #[.int .i64 sz, .slice x0.1 x0.2.1 x0.2.2, .slice x1.1 x1.2.1 x1.2.2, .slice x2.1 x2.2.1 x2.2.2, .slice none 0 0, .slice none 0 0] (w3.setCell ⟨w.heap.size + 1 + 1, 3, none⟩ (.slice x2.1 x2.2.1 x2.2.2))) := by show TW _ _ _ _; simpa using g1
 have szz := g2.size
 have tt := SZ0.out
 replace O0 := hq (LsI.chg (nodI_k n) O0.out g2 (fun g g1 g2 e => by omega))
 replace O1 := hq (LsI.chg (rpcI_k n) O1.out g2 (fun g g1 g2 e => by have := SC1.out; have := SB0.out; omega))
 replace O2 := hq (LsI.chg noI_k O2.out g2 (fun g g1 g2 e => by have := SC1.out; have := SC2.out; have := SB0.out; have := SB1.out; omega))
 have SC3 : Hid (w3.heap.size ≤ (w3.setCell ⟨w.heap.size + 1 + 1, 3, none⟩ (.slice x2.1 x2.2.1 x2.2.2)).heap.size) := szz
 clear g1 g2 G c0 szz tt
 have G := G2
 clear G2
 have c0 : ∀ j, (w3.setCell ⟨w.heap.size + 1 + 1, 3, none⟩ (.slice x2.1 x2.2.1 x2.2.2)).cell? ⟨w.heap.size, j, none⟩ = (#[.int .i64 sz, nv, rv, cv, av, lv] : Array Value)[j]? := fun j => cell_of_cells G.out.2.2.1
 go_upto_region 6 with fail
 clear ff dd
 generalize w3.setCell ⟨w.heap.size + 1 + 1, 3, none⟩ (.slice x2.1 x2.2.1 x2.2.2) = V3 at *
 go_wp2_with fail
 refine (L3.out _ G.out.1).mono ?_
 rintro e w4 ⟨z, rfl, o3, b3⟩
 obtain ⟨x3, hz⟩ := (Row.of_owns o3).sl
 subst hz
 have O3 : Hid (OwnI w4 V3.heap.size w4.heap.size 141 4 (.slice x3.1 x3.2.1 x3.2.2) D.ds.length (flatD D.ds)) := OwnI.made (.inl o3)
 have SB3 : Hid (V3.heap.size ≤ w4.heap.size) := b3.size
 replace O0 := hq (LsI.below (nodI_k n) O0.out b3)
 replace O1 := hq (LsI.below (rpcI_k n) O1.out b3)
 replace O2 := hq (LsI.below noI_k O2.out b3)
 replace G := hq (G.out.step b3)
 clear b3 o3 c0
 have c0 := fun j => cell_of_cells (j := j) G.out.2.2.1
 have ff : ∀ j, w4.frozen? ⟨w.heap.size + 1 + 1, j, none⟩ = false := fun j => frozen_of_cells G.out.2.2.2.2
 have dd : ∀ j, w4.cell? ⟨w.heap.size + 1 + 1, j, none⟩ = (#[.int .i64 sz, .slice x0.1 x0.2.1 x0.2.2, .slice x1.1 x1.2.1 x1.2.2, .slice x2.1 x2.2.1 x2.2.2, .slice none 0 0, .slice none 0 0] : Array Value)[j]? := fun j => cell_of_cells G.out.2.2.2.2
 obtain ⟨g1, g2⟩ := G.out.set 4 (.slice x3.1 x3.2.1 x3.2.2)
 have G2 : Hid (TW w #[.int .i64 sz, nv, rv, cv, av, lv] #[.int .i64 sz, .slice x0.1 x0.2.1 x0.2.2, .slice x1.1 x1.2.1 x1.2.2, .slice x2.1 x2.2.1 x2.2.2, .slice x3.1 x3.2.1 x3.2.2, .slice none 0 0] (w4.setCell ⟨w.heap.size + 1 + 1, 4, none⟩ (.slice x3.1 x3.2.1 x3.2.2))) := by show TW _ _ _ _; simpa using g1
 have szz := g2.size
 have tt := SZ0.out
 replace O0 := hq (LsI.chg (nodI_k n) O0.out g2 (fun g g1 g2 e => by omega))
 replace O1 := hq (LsI.chg (rpcI_k n) O1.out g2 (fun g g1 g2 e => by have := SC1.out; have := SB0.out; omega))
 replace O2 := hq (LsI.chg noI_k O2.out g2 (fun g g1 g2 e => by have := SC1.out; have := SC2.out; have := SB0.out; have := SB1.out; omega))
 replace O3 := hq (O3.out.chg g2 (fun g g1 g2 e => by have := SC1.out; have := SC2.out; have := SC3.out; have := SB0.out; have := SB1.out; have := SB2.out; omega))
 have SC4 : Hid (w4.heap.size ≤ (w4.setCell ⟨w.heap.size + 1 + 1, 4, none⟩ (.slice x3.1 x3.2.1 x3.2.2)).heap.size) := szz
 clear g1 g2 G c0 szz tt
 have G := G2
 clear G2
 have c0 : ∀ j, (w4.setCell ⟨w.heap.size + 1 + 1, 4, none⟩ (.slice x3.1 x3.2.1 x3.2.2)).cell? ⟨w.heap.size, j, none⟩ = (#[.int .i64 sz, nv, rv, cv, av, lv] : Array Value)[j]? := fun j => cell_of_cells G.out.2.2.1
 go_upto_region 7 with fail
 clear ff dd
 generalize w4.setCell ⟨w.heap.size + 1 + 1, 4, none⟩ (.slice x3.1 x3.2.1 x3.2.2) = V4 at *
 go_wp2_with fail
 refine (L4.out _ G.out.1).mono ?_
 rintro e w5 ⟨z, f4, rfl, lk4, o4, b4⟩
 rw [← lk4.eq] at o4
 obtain ⟨x4, hz⟩ := (Row.of_owns o4).sl
 subst hz
 have O4 : Hid (LsI ledC noI noLead 121 2 w5 V4.heap.size w5.heap.size (.slice x4.1 x4.2.1 x4.2.2) D.ls) := lsI_flat o4 b4.size
 have SB4 : Hid (V4.heap.size ≤ w5.heap.size) := b4.size
 replace O0 := hq (LsI.below (nodI_k n) O0.out b4)
 replace O1 := hq (LsI.below (rpcI_k n) O1.out b4)
 replace O2 := hq (LsI.below noI_k O2.out b4)
 replace O3 := hq (O3.out.below b4)
 replace G := hq (G.out.step b4)
 clear b4 o4 c0 lk4
 have c0 := fun j => cell_of_cells (j := j) G.out.2.2.1
 have ff : ∀ j, w5.frozen? ⟨w.heap.size + 1 + 1, j, none⟩ = false := fun j => frozen_of_cells G.out.2.2.2.2
 have dd : ∀ j, w5.cell? ⟨w.heap.size + 1 + 1, j, none⟩ = (#[.int .i64 sz, .slice x0.1 x0.2.1 x0.2.2, .slice x1.1 x1.2.1 x1.2.2, .slice x2.1 x2.2.1 x2.2.2, .slice x3.1 x3.2.1 x3.2.2, .slice none 0 0] : Array Value)[j]? := fun j => cell_of_cells G.out.2.2.2.2
 obtain ⟨g1, g2⟩ := G.out.set 5 (.slice x4.1 x4.2.1 x4.2.2)
 have G2 : Hid (TW w #[.int .i64 sz, nv, rv, cv, av, lv] #[.int .i64 sz, .slice x0.1 x0.2.1 x0.2.2, .slice x1.1 x1.2.1 x1.2.2, .slice x2.1 x2.2.1 x2.2.2, .slice x3.1 x3.2.1 x3.2.2, .slice x4.1 x4.2.1 x4.2.2] (w5.setCell ⟨w.heap.size + 1 + 1, 5, none⟩ (.slice x4.1 x4.2.1 x4.2.2))) := by show TW _ _ _ _; simpa using g1
 have szz := g2.size
 have tt := SZ0.out
 replace O0 := hq (LsI.chg (nodI_k n) O0.out g2 (fun g g1 g2 e => by omega))
 replace O1 := hq (LsI.chg (rpcI_k n) O1.out g2 (fun g g1 g2 e => by have := SC1.out; have := SB0.out; omega))
 replace O2 := hq (LsI.chg noI_k O2.out g2 (fun g g1 g2 e => by have := SC1.out; have := SC2.out; have := SB0.out; have := SB1.out; omega))
 replace O3 := hq (O3.out.chg g2 (fun g g1 g2 e => by have := SC1.out; have := SC2.out; have := SC3.out; have := SB0.out; have := SB1.out; have := SB2.out; omega))
 replace O4 := hq (LsI.chg noI_k O4.out g2 (fun g g1 g2 e => by have := SC1.out; have := SC2.out; have := SC3.out; have := SC4.out; have := SB0.out; have := SB1.out; have := SB2.out; have := SB3.out; omega))
 have SC5 : Hid (w5.heap.size ≤ (w5.setCell ⟨w.heap.size + 1 + 1, 5, none⟩ (.slice x4.1 x4.2.1 x4.2.2)).heap.size) := szz
 clear g1 g2 G c0 szz tt
 have G := G2
 clear G2
 have c0 : ∀ j, (w5.setCell ⟨w.heap.size + 1 + 1, 5, none⟩ (.slice x4.1 x4.2.1 x4.2.2)).cell? ⟨w.heap.size, j, none⟩ = (#[.int .i64 sz, nv, rv, cv, av, lv] : Array Value)[j]? := fun j => cell_of_cells G.out.2.2.1
 go_upto_region 8 with fail
 clear ff dd
 generalize w5.setCell ⟨w.heap.size + 1 + 1, 5, none⟩ (.slice x4.1 x4.2.1 x4.2.2) = V at *
 obtain ⟨cs, hcs⟩ : ∃ cs : List Value, cs = [.int .i64 sz, .slice x0.1 x0.2.1 x0.2.2, .slice x1.1 x1.2.1 x1.2.2, .slice x2.1 x2.2.1 x2.2.2, .slice x3.1 x3.2.1 x3.2.2, .slice x4.1 x4.2.1 x4.2.2] := ⟨_, rfl⟩
 have RG : Hid (V.rangeAt (w.heap.size + 1 + 1) 0 cs) := by rw [hcs]; exact range_of G.out.2.2.2.2
 have TH : Hid (V.there (w.heap.size + 1) 0 cs.toArray.size) := by rw [hcs]; exact there_of G.out.2.2.2.1 rfl
 have HI : Hid ((Tryz.prog.info? 37).map (·.size) = some cs.length) := by rw [hcs]; exact (show (Tryz.prog.info? 37).map (·.size) = some 6 by kernel_rfl)
 have ONE : Hid (cs.toArray.all (·.oneCell') = true) := by rw [hcs]; show _ = _; simp [Value.oneCell']
 have GC : Chg (fun g => g = w.heap.size + 1) V (V.setCells (w.heap.size + 1) 0 cs) := Chg.setCells (F := fun b => b = w.heap.size + 1) (g := w.heap.size + 1) (fun _ => rfl) cs 0 V (Chg.refl _ _)
 have X1 : Hid ((V.setCells (w.heap.size + 1) 0 cs).heap[w.heap.size + 1]? = some (.cells cs.toArray 37 (0, 0))) := setAll_at G.out.2.2.2.1 cs (by rw [hcs]; rfl)
 have BF := hq (G.out.1.trans (GC.below (fun g _ hg => by omega) G.out.1.size))
 have W1 : Hid (WrI n (V.setCells (w.heap.size + 1) 0 cs) w.heap.size (V.setCells (w.heap.size + 1) 0 cs).heap.size ⟨sz, .slice x0.1 x0.2.1 x0.2.2, .slice x1.1 x1.2.1 x1.2.2, .slice x2.1 x2.2.1 x2.2.2, .slice x3.1 x3.2.1 x3.2.2, .slice x4.1 x4.2.1 x4.2.2⟩ ⟨f0, f1, D.cs, D.ds, D.ls⟩) := by
  have s0 := SB0.out
  have s1 := SB1.out
  have s2 := SB2.out
  have s3 := SB3.out
  have s4 := SB4.out
  have t1 := SC1.out
  have t2 := SC2.out
  have t3 := SC3.out
  have t4 := SC4.out
  have t5 := SC5.out
  have tt := SZ0.out
  have gz := GC.size
  have z0 := LsI.chg (nodI_k n) O0.out GC (fun g g1 g2 e => by omega)
  have z1 := LsI.chg (rpcI_k n) O1.out GC (fun g g1 g2 e => by omega)
  have z2 := LsI.chg noI_k O2.out GC (fun g g1 g2 e => by omega)
  have z3 := O3.out.chg GC (fun g g1 g2 e => by omega)
  have z4 := LsI.chg noI_k O4.out GC (fun g g1 g2 e => by omega)
  refine ⟨fun i => match i with | 0 => V0.heap.size | 1 => V1.heap.size | 2 => V2.heap.size | 3 => V3.heap.size | _ => V4.heap.size, fun i => match i with | 0 => w1.heap.size | 1 => w2.heap.size | 2 => w3.heap.size | 3 => w4.heap.size | _ => w5.heap.size, ?_, ?_, Nat.le_refl _, z0, z1, z2, z3, z4⟩
  ·intro i hi
   rcases i with _ | _ | _ | _ | i <;> simp only <;> omega
  ·intro i j hi hj hij
   rcases i with _ | _ | _ | _ | i <;> rcases j with _ | _ | _ | _ | j <;> simp only <;> omega
 have LKF : Hid (D.like ⟨f0, f1, D.cs, D.ds, D.ls⟩) := ⟨K0.out, K1.out, rfl, rfl, rfl⟩
 have MV : Hid (Value.agg cs.toArray = (⟨sz, .slice x0.1 x0.2.1 x0.2.2, .slice x1.1 x1.2.1 x1.2.2, .slice x2.1 x2.2.1 x2.2.2, .slice x3.1 x3.2.1 x3.2.2, .slice x4.1 x4.2.1 x4.2.2⟩ : WrV).val) := by rw [hcs]; rfl
 clear hcs GC G O0 O1 O2 O3 O4 K0 K1 c0 SB0 SB1 SB2 SB3 SB4 SC1 SC2 SC3 SC4 SC5 SZ0
 go_wp2_with (first | (refine wpList_load_mid rfl 37 _ rfl (w.heap.size + 1 + 1) 0 rfl cs _ RG.out Tryz.underlying37 rfl HI.out ?_) | (refine wpList_store_mid rfl 37 _ _ rfl (w.heap.size + 1) 0 cs.toArray rfl rfl TH.out HI.out ONE.out ?_))
 generalize V.setCells (w.heap.size + 1) 0 cs = WF at *
 exact ⟨rfl, _, results_cell_row Tryz.results8 _ WF (w.heap.size + 1) 37 cs.toArray (0, 0) _ rfl X1.out Tryz.underlying37 rfl HI.out, ⟨_, _, by rw [MV.out], rfl, LKF.out, W1.out, BF.out⟩⟩
end
end Go.Proofs.YtkcaelfkcepdkaaGreat
