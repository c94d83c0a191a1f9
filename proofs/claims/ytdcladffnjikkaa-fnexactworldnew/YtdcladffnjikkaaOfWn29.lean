/-
  The two WorldNews at whatever size, and the walk of the law FnExactWorldNew.
  What an argument that is a list of pairs holds: opened once into a row of cells.
-/
import Derived.Test.YtdcladffnjikkaaOfWn24
import Derived.Test.YtdcladffnjikkaaOfWn28
import Derived.Test.YtdcladffnjikkaaOfWn1
import Derived.ProofKit
import Derived.Deep.SlicePairs
namespace Go.Proofs.Ytdcladffnjikkaa
set_option maxRecDepth 100000
set_option maxHeartbeats 8000000
section
open Go.RowKit

def wnZ (size : Int) : Int := if inB size 1 5 then size else 0
def wnK (size : Int) : Nat := if inB size 1 5 then size.toNat else 0
theorem implWorldNew_no (size : Int) (w : World) (h : inB size 1 5 = false) :
  Calls Try.prog 5 #[.int .i64 size] w fun e w' => e = .returned (.tuple #[.agg #[.int .i64 0, .slice none 0 0, .slice none 0 0, .slice none 0 0, .slice none 0 0, .slice none 0 0], .bool false]) ∧ Below w.heap.size w w' := by
 have B1 : Hid (Below w.heap.size w (w.alloc (.cells #[.int .i64 0, .slice none 0 0, .slice none 0 0, .slice none 0 0, .slice none 0 0, .slice none 0 0] 28))) := bel_nw _ _
 have Y1 : Hid (MBox 28 (w.alloc (.cells #[.int .i64 0, .slice none 0 0, .slice none 0 0, .slice none 0 0, .slice none 0 0, .slice none 0 0] 28)) w.heap.size #[.int .i64 0, .slice none 0 0, .slice none 0 0, .slice none 0 0, .slice none 0 0, .slice none 0 0]) := MBox.start _ w _
 go_enter Try.func5, Try.ntmps5
 go_wp2_with fail
 generalize (w.alloc (.cells #[.int .i64 0, .slice none 0 0, .slice none 0 0, .slice none 0 0, .slice none 0 0, .slice none 0 0] 28)) = W1 at *
 refine (sizeOk_any _ _).mono ?_
 rintro e w1 ⟨rfl, hw1⟩
 subst hw1
 rw [h]
 have c5 := Y1.out.cells
 have f5 : ∀ q, w1.frozen? ⟨w.heap.size, q, none⟩ = false := fun q => frozen_of_cells Y1.out
 have g0 := heap_setCell_same w1 w.heap.size 0 _ _ (.int .i64 0) Y1.out
 have g1 := heap_setCell_same _ w.heap.size 1 _ _ (.slice none 0 0) g0
 have g2 := heap_setCell_same _ w.heap.size 2 _ _ (.slice none 0 0) g1
 have g3 := heap_setCell_same _ w.heap.size 3 _ _ (.slice none 0 0) g2
 have g4 := heap_setCell_same _ w.heap.size 4 _ _ (.slice none 0 0) g3
 have g5 := heap_setCell_same _ w.heap.size 5 _ _ (.slice none 0 0) g4
 have ch : Chg (fun g => g = w.heap.size) w1 ((((((w1.setCell ⟨w.heap.size, 0, none⟩ (.int .i64 0)).setCell ⟨w.heap.size, 1, none⟩ (.slice none 0 0)).setCell ⟨w.heap.size, 2, none⟩ (.slice none 0 0)).setCell ⟨w.heap.size, 3, none⟩ (.slice none 0 0)).setCell ⟨w.heap.size, 4, none⟩ (.slice none 0 0)).setCell ⟨w.heap.size, 5, none⟩ (.slice none 0 0)) := ((((((Chg.refl (fun g => g = w.heap.size) w1).setAt w.heap.size 0 rfl _).setAt w.heap.size 1 rfl _).setAt w.heap.size 2 rfl _).setAt w.heap.size 3 rfl _).setAt w.heap.size 4 rfl _).setAt w.heap.size 5 rfl _
 have XF : Hid (((((((w1.setCell ⟨w.heap.size, 0, none⟩ (.int .i64 0)).setCell ⟨w.heap.size, 1, none⟩ (.slice none 0 0)).setCell ⟨w.heap.size, 2, none⟩ (.slice none 0 0)).setCell ⟨w.heap.size, 3, none⟩ (.slice none 0 0)).setCell ⟨w.heap.size, 4, none⟩ (.slice none 0 0)).setCell ⟨w.heap.size, 5, none⟩ (.slice none 0 0)).heap[w.heap.size]? = some (.cells #[.int .i64 0, .slice none 0 0, .slice none 0 0, .slice none 0 0, .slice none 0 0, .slice none 0 0] 28 (0, 0))) := g5
 have FIN : Hid (Below w.heap.size w ((((((w1.setCell ⟨w.heap.size, 0, none⟩ (.int .i64 0)).setCell ⟨w.heap.size, 1, none⟩ (.slice none 0 0)).setCell ⟨w.heap.size, 2, none⟩ (.slice none 0 0)).setCell ⟨w.heap.size, 3, none⟩ (.slice none 0 0)).setCell ⟨w.heap.size, 4, none⟩ (.slice none 0 0)).setCell ⟨w.heap.size, 5, none⟩ (.slice none 0 0))) := B1.out.trans (ch.below (fun g _ hg => by omega) B1.out.size)
 clear g0 g1 g2 g3 g4 g5 ch B1 Y1
 go_wp2
 generalize ((((((w1.setCell ⟨w.heap.size, 0, none⟩ (.int .i64 0)).setCell ⟨w.heap.size, 1, none⟩ (.slice none 0 0)).setCell ⟨w.heap.size, 2, none⟩ (.slice none 0 0)).setCell ⟨w.heap.size, 3, none⟩ (.slice none 0 0)).setCell ⟨w.heap.size, 4, none⟩ (.slice none 0 0)).setCell ⟨w.heap.size, 5, none⟩ (.slice none 0 0)) = WF at *
 exact ⟨rfl, _, results_cell_two Try.results5 _ WF w.heap.size 28 _ (0, 0) _ rfl XF.out Try.underlying28 rfl (show (Try.prog.info? 28).map (·.size) = some 6 by kernel_rfl), rfl, FIN.out⟩
theorem specWorldNew_no (size : Int) (w : World) (h : inB size 1 5 = false) :
  Calls Try.prog 4 #[.int .i64 size] w fun e w' => e = .returned (.tuple #[.agg #[.int .i64 0, .slice none 0 0, .slice none 0 0, .slice none 0 0, .slice none 0 0, .slice none 0 0], .bool false]) ∧ Below w.heap.size w w' := by
 have B1 : Hid (Below w.heap.size w (w.alloc (.cells #[.int .i64 0, .slice none 0 0, .slice none 0 0, .slice none 0 0, .slice none 0 0, .slice none 0 0] 28))) := bel_nw _ _
 have Y1 : Hid (MBox 28 (w.alloc (.cells #[.int .i64 0, .slice none 0 0, .slice none 0 0, .slice none 0 0, .slice none 0 0, .slice none 0 0] 28)) w.heap.size #[.int .i64 0, .slice none 0 0, .slice none 0 0, .slice none 0 0, .slice none 0 0, .slice none 0 0]) := MBox.start _ w _
 go_enter Try.func4, Try.ntmps4
 go_wp2_with fail
 generalize (w.alloc (.cells #[.int .i64 0, .slice none 0 0, .slice none 0 0, .slice none 0 0, .slice none 0 0, .slice none 0 0] 28)) = W1 at *
 refine (l1In_any _ _ _ _).mono ?_
 rintro e w1 ⟨rfl, hw1⟩
 subst hw1
 rw [h]
 have c5 := Y1.out.cells
 have f5 : ∀ q, w1.frozen? ⟨w.heap.size, q, none⟩ = false := fun q => frozen_of_cells Y1.out
 have g0 := heap_setCell_same w1 w.heap.size 0 _ _ (.int .i64 0) Y1.out
 have g1 := heap_setCell_same _ w.heap.size 1 _ _ (.slice none 0 0) g0
 have g2 := heap_setCell_same _ w.heap.size 2 _ _ (.slice none 0 0) g1
 have g3 := heap_setCell_same _ w.heap.size 3 _ _ (.slice none 0 0) g2
 have g4 := heap_setCell_same _ w.heap.size 4 _ _ (.slice none 0 0) g3
 have g5 := heap_setCell_same _ w.heap.size 5 _ _ (.slice none 0 0) g4
 have ch : Chg (fun g => g = w.heap.size) w1 ((((((w1.setCell ⟨w.heap.size, 0, none⟩ (.int .i64 0)).setCell ⟨w.heap.size, 1, none⟩ (.slice none 0 0)).setCell ⟨w.heap.size, 2, none⟩ (.slice none 0 0)).setCell ⟨w.heap.size, 3, none⟩ (.slice none 0 0)).setCell ⟨w.heap.size, 4, none⟩ (.slice none 0 0)).setCell ⟨w.heap.size, 5, none⟩ (.slice none 0 0)) := ((((((Chg.refl (fun g => g = w.heap.size) w1).setAt w.heap.size 0 rfl _).setAt w.heap.size 1 rfl _).setAt w.heap.size 2 rfl _).setAt w.heap.size 3 rfl _).setAt w.heap.size 4 rfl _).setAt w.heap.size 5 rfl _
 have XF : Hid (((((((w1.setCell ⟨w.heap.size, 0, none⟩ (.int .i64 0)).setCell ⟨w.heap.size, 1, none⟩ (.slice none 0 0)).setCell ⟨w.heap.size, 2, none⟩ (.slice none 0 0)).setCell ⟨w.heap.size, 3, none⟩ (.slice none 0 0)).setCell ⟨w.heap.size, 4, none⟩ (.slice none 0 0)).setCell ⟨w.heap.size, 5, none⟩ (.slice none 0 0)).heap[w.heap.size]? = some (.cells #[.int .i64 0, .slice none 0 0, .slice none 0 0, .slice none 0 0, .slice none 0 0, .slice none 0 0] 28 (0, 0))) := g5
 have FIN : Hid (Below w.heap.size w ((((((w1.setCell ⟨w.heap.size, 0, none⟩ (.int .i64 0)).setCell ⟨w.heap.size, 1, none⟩ (.slice none 0 0)).setCell ⟨w.heap.size, 2, none⟩ (.slice none 0 0)).setCell ⟨w.heap.size, 3, none⟩ (.slice none 0 0)).setCell ⟨w.heap.size, 4, none⟩ (.slice none 0 0)).setCell ⟨w.heap.size, 5, none⟩ (.slice none 0 0))) := B1.out.trans (ch.below (fun g _ hg => by omega) B1.out.size)
 clear g0 g1 g2 g3 g4 g5 ch B1 Y1
 go_wp2
 generalize ((((((w1.setCell ⟨w.heap.size, 0, none⟩ (.int .i64 0)).setCell ⟨w.heap.size, 1, none⟩ (.slice none 0 0)).setCell ⟨w.heap.size, 2, none⟩ (.slice none 0 0)).setCell ⟨w.heap.size, 3, none⟩ (.slice none 0 0)).setCell ⟨w.heap.size, 4, none⟩ (.slice none 0 0)).setCell ⟨w.heap.size, 5, none⟩ (.slice none 0 0)) = WF at *
 exact ⟨rfl, _, results_cell_two Try.results4 _ WF w.heap.size 28 _ (0, 0) _ rfl XF.out Try.underlying28 rfl (show (Try.prog.info? 28).map (·.size) = some 6 by kernel_rfl), rfl, FIN.out⟩
theorem implWorldNew_any (size : Int) (w : World) :
  Calls Try.prog 5 #[.int .i64 size] w fun e w' => ∃ (a : Option Addr) (q : Nat) (es : List NodE) (G : Nat → Nat → Prop), e = .returned (.tuple #[.agg #[.int .i64 (wnZ size), .slice a (wnK size) q, .slice none 0 0, .slice none 0 0, .slice none 0 0, .slice none 0 0], .bool (inB size 1 5)]) ∧ NewU (NodA 1) w.heap.size size.toNat (wnK size) w' (.slice a (wnK size) q) es G ∧ Below w.heap.size w w' := by
 cases h : inB size 1 5
 ·have e1 : wnZ size = 0 := by unfold wnZ; rw [h]; rfl
  have e2 : wnK size = 0 := by unfold wnK; rw [h]; rfl
  rw [e1, e2]
  exact (implWorldNew_no size w h).mono (fun e w' ⟨a, b⟩ => ⟨none, 0, [], _, a, NewU.start _ _ _, b⟩)
 ·have hk := inB_iff.1 h
  obtain ⟨k, rfl⟩ := Int.eq_ofNat_of_zero_le (show 0 ≤ size by omega)
  have e1 : wnZ (k : Int) = k := by unfold wnZ; rw [h]; rfl
  have e2 : wnK (k : Int) = k := by unfold wnK; rw [h]; simp
  rw [e1, e2, Int.toNat_natCast]
  refine (implWorldNew_yes k w (by omega) (by omega)).mono ?_
  rintro e w' ⟨v, es, G, rfl, n, b⟩
  obtain ⟨a, q, hv⟩ := OwnE.slice n.2.1
  subst hv
  exact ⟨a, q, es, G, rfl, n, b⟩
theorem specWorldNew_any (size : Int) (w : World) :
  Calls Try.prog 4 #[.int .i64 size] w fun e w' => ∃ (a : Option Addr) (q : Nat) (es : List NodE) (G : Nat → Nat → Prop), e = .returned (.tuple #[.agg #[.int .i64 (wnZ size), .slice a (wnK size) q, .slice none 0 0, .slice none 0 0, .slice none 0 0, .slice none 0 0], .bool (inB size 1 5)]) ∧ NewU (NodF 1) w.heap.size size.toNat (wnK size) w' (.slice a (wnK size) q) es G ∧ Below w.heap.size w w' := by
 cases h : inB size 1 5
 ·have e1 : wnZ size = 0 := by unfold wnZ; rw [h]; rfl
  have e2 : wnK size = 0 := by unfold wnK; rw [h]; rfl
  rw [e1, e2]
  exact (specWorldNew_no size w h).mono (fun e w' ⟨a, b⟩ => ⟨none, 0, [], _, a, NewU.start _ _ _, b⟩)
 ·have hk := inB_iff.1 h
  obtain ⟨k, rfl⟩ := Int.eq_ofNat_of_zero_le (show 0 ≤ size by omega)
  have e1 : wnZ (k : Int) = k := by unfold wnZ; rw [h]; rfl
  have e2 : wnK (k : Int) = k := by unfold wnK; rw [h]; simp
  rw [e1, e2, Int.toNat_natCast]
  refine (specWorldNew_yes k w (by omega) (by omega)).mono ?_
  rintro e w' ⟨v, es, G, rfl, n, b⟩
  obtain ⟨a, q, hv⟩ := OwnE.slice n.2.1
  subst hv
  exact ⟨a, q, es, G, rfl, n, b⟩
def NewQ (k K : Nat) (es : List NodE) : Prop := es.length = K ∧ ∀ i, i < K → (newV true i).like (es.getD i noNod).1 ∧ (es.getD i noNod).2 = newD true k
theorem NewU.q {R : World → (Nat → Prop) → NodV → Nd → Prop} {lo k K : Nat} {W : World} {v : Value} {es : List NodE} {G : Nat → Nat → Prop} (h : NewU R lo k K W v es G) : NewQ k K es := ⟨h.1, fun i hi => (h.2.2.1 i hi).2⟩
theorem nod_mem {es : List NodE} {e : NodE} (h : e ∈ es) : ∃ i, i < es.length ∧ es.getD i noNod = e := by
 obtain ⟨i, hi, rfl⟩ := List.getElem_of_mem h
 exact ⟨i, hi, by simp [List.getD, hi]⟩
theorem NewU.look {R : World → (Nat → Prop) → NodV → Nd → Prop} (hR : ∀ W F N D, R W F N D → NodAt 1 W N D) {lo k K : Nat} {W : World} {v : Value} {es : List NodE} {G : Nat → Nat → Prop} (h : NewU R lo k K W v es G) : LsAt nodC (nodAt 1) W v es := by
 refine ⟨by rw [h.1]; exact h.2.1.rowF.row, fun e he => ?_⟩
 obtain ⟨i, hi, rfl⟩ := nod_mem he
 exact hR _ _ _ _ (h.2.2.1 i (by rw [← h.1]; exact hi)).1
theorem NewU.lsA {lo k K : Nat} {W : World} {v : Value} {es : List NodE} {G : Nat → Nat → Prop} (h : NewU (NodA 1) lo k K W v es G) : LsA 1 W G v es := by
 obtain ⟨h1, h2, h3, h4, h5⟩ := h
 subst h1
 exact ⟨h2.mono (Nat.zero_le _), fun i hi => (h3 i hi).1, fun i j g hij hj => h5 i j g hij hj, fun i g hi hg => (h4 i g hi hg).2.2⟩
theorem LsA.below {n : Nat} {W W' : World} {v : Value} {es : List NodE} {G : Nat → Nat → Prop} (h : LsA n W G v es) (hb : Below W.heap.size W W') : LsA n W' G v es := ⟨h.1.below hb, fun i hi => (h.2.1 i hi).below hb, h.2.2⟩
theorem NewQ.lk {k K : Nat} {es fs : List NodE} (h : NewQ k K es) (h' : NewQ k K fs) : LsLk nodLk es fs := by
 refine ⟨by rw [h.1, h'.1], fun i h1 h2 => ?_⟩
 have a := h.2 i (by rw [← h.1]; exact h1)
 have b := h'.2 i (by rw [← h'.1]; exact h2)
 simp only [List.getD, List.getElem?_eq_getElem h1, Option.getD_some] at a
 simp only [List.getD, List.getElem?_eq_getElem h2, Option.getD_some] at b
 exact ⟨a.1.both b.1, a.2.trans b.2.symm⟩
theorem NewQ.sum {k K : Nat} {es : List NodE} (h : NewQ k K es) (hk : k ≤ 5) : ∀ j, j ≤ K → sumE (nodK 1) es j ≤ 24 * j
 | 0, _ => by simp [sumE]
 | j + 1, hj => by
  have := h.sum hk j (by omega)
  rw [sumE_getD _ noNod es j (by rw [h.1]; omega)]
  have e := (h.2 j (by omega)).2
  have : nodK 1 (es.getD j noNod) ≤ 24 := by
   unfold nodK
   rw [e]
   simp [newD, nwT, mkT]
   omega
  omega

theorem fnExactWorldNew_any (size : Int) (w : World) :
  Calls Try.prog 3 #[.int .i64 size] w fun e w' => e = .returned (.bool true) ∧ Below w.heap.size w w' := by
 have hk5 : wnK size ≤ 5 ∧ (0 < wnK size → size.toNat ≤ 5) := by
  unfold wnK
  cases h : inB size 1 5
  ·simp
  ·have := inB_iff.1 h
   simp
   omega
 have SM : Hid (∀ es, NewQ size.toNat (wnK size) es → (1 : Int) + (sumE (nodK 1) es es.length : Nat) ≤ 67108864) := fun es h => by
  rw [h.1]
  by_cases h0 : wnK size = 0
  ·rw [h0]; simp [sumE]
  ·have := h.sum (hk5.2 (by omega)) (wnK size) (Nat.le_refl _)
   omega
 have SP1 : Hid (∀ u, Calls Try.prog 4 #[.int .i64 size] u fun e w' => ∃ (a : Option Addr) (q : Nat) (es : List NodE), e = .returned (.tuple #[.agg #[.int .i64 (wnZ size), .slice a (wnK size) q, .slice none 0 0, .slice none 0 0, .slice none 0 0, .slice none 0 0], .bool (inB size 1 5)]) ∧ NewQ size.toNat (wnK size) es ∧ LsAt nodC (nodAt 1) w' (.slice a (wnK size) q) es ∧ Below u.heap.size u w') := fun u => (specWorldNew_any size u).mono (fun e w' ⟨a, q, es, G, h1, h2, h3⟩ => ⟨a, q, es, h1, h2.q, h2.look (fun _ _ _ _ h => h.at), h3⟩)
 have IP1 : Hid (∀ u, Calls Try.prog 5 #[.int .i64 size] u fun e w' => ∃ (a : Option Addr) (q : Nat) (es : List NodE) (G : Nat → Nat → Prop), e = .returned (.tuple #[.agg #[.int .i64 (wnZ size), .slice a (wnK size) q, .slice none 0 0, .slice none 0 0, .slice none 0 0, .slice none 0 0], .bool (inB size 1 5)]) ∧ NewQ size.toNat (wnK size) es ∧ LsAt nodC (nodAt 1) w' (.slice a (wnK size) q) es ∧ LsA 1 w' G (.slice a (wnK size) q) es ∧ (∀ g, (wrB (.slice a (wnK size) q) g ∨ ∃ i, i < es.length ∧ G i g) → u.heap.size ≤ g ∧ g < w'.heap.size) ∧ Below u.heap.size u w') := fun u => (implWorldNew_any size u).mono (fun e w' ⟨a, q, es, G, h1, h2, h3⟩ => ⟨a, q, es, G, h1, h2.q, h2.look (fun _ _ _ _ h => h.at), h2.lsA, fun g hg => by
  rcases hg with hg | ⟨i, hi, hg⟩
  ·exact h2.2.1.lt g hg
  ·have := h2.2.2.2.1 i g (by rw [← h2.1]; exact hi) hg
   exact ⟨this.1, this.2.1⟩, h3⟩)
 have EQ1 : Hid (∀ (u : World) (a a' : Option Addr) (q q' : Nat) (es fs : List NodE), NewQ size.toNat (wnK size) es → NewQ size.toNat (wnK size) fs → LsAt nodC (nodAt 1) u (.slice a (wnK size) q) es → LsAt nodC (nodAt 1) u (.slice a' (wnK size) q') fs → Calls Try.prog 6 #[.agg #[.int .i64 (wnZ size), .slice a (wnK size) q, .slice none 0 0, .slice none 0 0, .slice none 0 0, .slice none 0 0], .agg #[.int .i64 (wnZ size), .slice a' (wnK size) q', .slice none 0 0, .slice none 0 0, .slice none 0 0, .slice none 0 0]] u fun e w' => e = .returned (.bool true) ∧ Below u.heap.size u w') := fun u a a' q q' es fs h1 h2 h3 h4 =>
  eqWorld_t 1 ⟨wnZ size, .slice a (wnK size) q, .slice none 0 0, .slice none 0 0, .slice none 0 0, .slice none 0 0⟩ ⟨wnZ size, .slice a' (wnK size) q', .slice none 0 0, .slice none 0 0, .slice none 0 0, .slice none 0 0⟩ ⟨es, [], [], [], []⟩ ⟨fs, [], [], [], []⟩ u rfl ⟨h1.lk h2, ⟨rfl, fun i h => by simp at h⟩, rfl, rfl, rfl⟩ ⟨h3, ⟨(OwnE.nil u 0 0 0).rowF.row, fun e he => by cases he⟩, ⟨(OwnE.nil u 0 0 0).rowF.row, fun e he => by cases he⟩, (OwnE.nil u 0 0 0).rowF.row, ⟨(OwnE.nil u 0 0 0).rowF.row, fun e he => by cases he⟩⟩ ⟨h4, ⟨(OwnE.nil u 0 0 0).rowF.row, fun e he => by cases he⟩, ⟨(OwnE.nil u 0 0 0).rowF.row, fun e he => by cases he⟩, (OwnE.nil u 0 0 0).rowF.row, ⟨(OwnE.nil u 0 0 0).rowF.row, fun e he => by cases he⟩⟩
 have MK1 : Hid (∀ (u : World) (a : Option Addr) (q : Nat) (es : List NodE) (G : Nat → Nat → Prop), NewQ size.toNat (wnK size) es → LsA 1 u G (.slice a (wnK size) q) es → (∀ g, (wrB (.slice a (wnK size) q) g ∨ ∃ i, i < es.length ∧ G i g) → g < u.heap.size) → Calls Try.prog 7 #[.agg #[.int .i64 (wnZ size), .slice a (wnK size) q, .slice none 0 0, .slice none 0 0, .slice none 0 0, .slice none 0 0], .int .i64 1] u fun e w' => e = .returned (.int .i64 (1 + (sumE (nodK 1) es es.length : Nat))) ∧ LsAt nodC (nodAt 1) w' (.slice a (wnK size) q) (nodMs 1 1 es) ∧ Chg (fun g => wrB (.slice a (wnK size) q) g ∨ ∃ i, i < es.length ∧ G i g) u w') := fun u a q es G h1 h2 h3 =>
  markWorld_c (k1 := (1 + (sumE (nodK 1) es es.length : Nat))) (k2 := (1 + (sumE (nodK 1) es es.length : Nat))) (k3 := (1 + (sumE (nodK 1) es es.length : Nat))) (k4 := (1 + (sumE (nodK 1) es es.length : Nat))) (k5 := (1 + (sumE (nodK 1) es es.length : Nat))) (A0 := fun u => LsA 1 u G (.slice a (wnK size) q) es) (A1 := fun u => LsAt nodC (nodAt 1) u (.slice a (wnK size) q) (nodMs 1 1 es)) (A2 := fun u => LsAt nodC (nodAt 1) u (.slice a (wnK size) q) (nodMs 1 1 es)) (A3 := fun u => LsAt nodC (nodAt 1) u (.slice a (wnK size) q) (nodMs 1 1 es)) (A4 := fun u => LsAt nodC (nodAt 1) u (.slice a (wnK size) q) (nodMs 1 1 es)) (A5 := fun u => LsAt nodC (nodAt 1) u (.slice a (wnK size) q) (nodMs 1 1 es)) u h3 (fun u' hb => h2.below hb)
   (fun u' h => (markNodeS_any 0 _ es G 1 u' h (by omega) (SM.out es h1)))
   (fun u' h => (markRpcS_nil _ _ _ u').mono (fun e x ⟨a, b⟩ => by subst b; exact ⟨a, h, Chg.refl _ _⟩))
   (fun u' h => (markCmdS_nil _ _ _ u').mono (fun e x ⟨a, b⟩ => by subst b; exact ⟨a, h, Chg.refl _ _⟩))
   (fun u' h => (markDoneS_nil _ _ _ u').mono (fun e x ⟨a, b⟩ => by subst b; exact ⟨a, h, Chg.refl _ _⟩))
   (fun u' h => (markLeadS_nil _ _ _ u').mono (fun e x ⟨a, b⟩ => by subst b; exact ⟨a, h, Chg.refl _ _⟩))
 have HD1 : Hid (∀ (u : World) (a : Option Addr) (q : Nat) (es : List NodE), NewQ size.toNat (wnK size) es → LsAt nodC (nodAt 1) u (.slice a (wnK size) q) (nodMs 1 1 es) → Calls Try.prog 8 #[.agg #[.int .i64 (wnZ size), .slice a (wnK size) q, .slice none 0 0, .slice none 0 0, .slice none 0 0, .slice none 0 0], .int .i64 1] u fun e w' => e = .returned (.int .i64 (1 + (sumE (nodK 1) es es.length : Nat))) ∧ Below u.heap.size u w') := fun u a q es h1 h2 =>
  heldWorld_c u (k1 := 1 + (sumE (nodK 1) es es.length : Nat)) (by omega) (by omega) (by omega) (by omega) (by omega)
   (fun u' hb => heldNodeS_any 0 _ es 1 u' (h2.below (nodAt_b 1) hb) (by omega) (SM.out es h1))
   (fun u' _ => heldRpcS_nil _ _ _ u') (fun u' _ => heldCmdS_nil _ _ _ u') (fun u' _ => heldDoneS_nil _ _ _ u') (fun u' _ => heldLeadS_nil _ _ _ u')
 clear SM hk5
 generalize NewQ size.toNat (wnK size) = QE at *
 generalize inB size 1 5 = bf at *
 generalize wnZ size = sz at *
 generalize wnK size = K at *
 have hbb : (bf != bf) = false := by cases bf <;> rfl
 have B1 : Hid (Below w.heap.size w w) := Below.refl _ _
 go_enter Try.func3, Try.ntmps3
 go_wp2_with fail
 refine (SP1.out w).mono ?_
 rintro e u1 ⟨a, q, es, rfl, qe, la, b1⟩
 have QE1 := hq qe
 have LA := hq (la.below (nodAt_b 1) (bel_nw u1 (.cells #[.int .i64 sz, .slice a K q, .slice none 0 0, .slice none 0 0, .slice none 0 0, .slice none 0 0] 28)))
 replace B1 := hq (Below.and b1 (bel_nw u1 (.cells #[.int .i64 sz, .slice a K q, .slice none 0 0, .slice none 0 0, .slice none 0 0, .slice none 0 0] 28)))
 have Y3 : Hid (MBox 28 (u1.alloc (.cells #[.int .i64 sz, .slice a K q, .slice none 0 0, .slice none 0 0, .slice none 0 0, .slice none 0 0] 28)) u1.heap.size #[.int .i64 sz, .slice a K q, .slice none 0 0, .slice none 0 0, .slice none 0 0, .slice none 0 0]) := MBox.start _ u1 _
 have WX : Hid (w.heap.size ≤ u1.heap.size) := b1.size
 have S3 : Hid (u1.heap.size < (u1.alloc (.cells #[.int .i64 sz, .slice a K q, .slice none 0 0, .slice none 0 0, .slice none 0 0, .slice none 0 0] 28)).heap.size) := by show _ < _; simp
 clear qe la b1 SP1
 go_upto_region 2 with fail
 generalize (u1.alloc (.cells #[.int .i64 sz, .slice a K q, .slice none 0 0, .slice none 0 0, .slice none 0 0, .slice none 0 0] 28)) = U1 at *
 generalize u1.heap.size = X at *
 have BU : Hid (Below U1.heap.size U1 U1) := Below.refl _ _
 go_wp2_with fail
 refine (IP1.out U1).mono ?_
 rintro e u2 ⟨a', q', fs, G, rfl, qf, lf, lo, bd, b2⟩
 have QF := hq qf
 have LF := hq (lf.below (nodAt_b 1) (bel_nw u2 (.cells #[.int .i64 sz, .slice a' K q', .slice none 0 0, .slice none 0 0, .slice none 0 0, .slice none 0 0] 28)))
 have LO := hq (lo.below (bel_nw u2 (.cells #[.int .i64 sz, .slice a' K q', .slice none 0 0, .slice none 0 0, .slice none 0 0, .slice none 0 0] 28)))
 have bn := bel_nw u2 (.cells #[.int .i64 sz, .slice a' K q', .slice none 0 0, .slice none 0 0, .slice none 0 0, .slice none 0 0] 28)
 replace BU := hq (Below.and b2 bn)
 replace B1 := hq (Below.and B1.out BU.out)
 have Y5 : Hid (MBox 28 (u2.alloc (.cells #[.int .i64 sz, .slice a' K q', .slice none 0 0, .slice none 0 0, .slice none 0 0, .slice none 0 0] 28)) u2.heap.size #[.int .i64 sz, .slice a' K q', .slice none 0 0, .slice none 0 0, .slice none 0 0, .slice none 0 0]) := MBox.start _ u2 _
 replace Y3 : Hid (MBox 28 (u2.alloc (.cells #[.int .i64 sz, .slice a' K q', .slice none 0 0, .slice none 0 0, .slice none 0 0, .slice none 0 0] 28)) X #[.int .i64 sz, .slice a K q, .slice none 0 0, .slice none 0 0, .slice none 0 0, .slice none 0 0]) := hq (Y3.out.step BU.out)
 have BD : Hid (∀ g, (wrB (.slice a' K q') g ∨ ∃ i, i < fs.length ∧ G i g) → U1.heap.size ≤ g ∧ g < u2.heap.size) := bd
 have S5 : Hid (U1.heap.size ≤ u2.heap.size ∧ u2.heap.size < (u2.alloc (.cells #[.int .i64 sz, .slice a' K q', .slice none 0 0, .slice none 0 0, .slice none 0 0, .slice none 0 0] 28)).heap.size) := by show _ ∧ _; exact ⟨b2.size, by simp⟩
 clear qf lf lo bd b2 bn
 go_upto_region 3 with fail
 generalize (u2.alloc (.cells #[.int .i64 sz, .slice a' K q', .slice none 0 0, .slice none 0 0, .slice none 0 0, .slice none 0 0] 28)) = U2 at *
 generalize u2.heap.size = Y at *
 have c3 := Y3.out.cells
 have c5 := Y5.out.cells
 have EQ := hq (EQ1.out U2 a' a q' q fs es QF.out QE1.out LF.out (LA.out.below (nodAt_b 1) BU.out))
 go_wp2_with fail
 refine EQ.out.mono ?_
 rintro e u3 ⟨rfl, b3⟩
 replace B1 := hq (Below.and B1.out b3)
 replace BU := hq (Below.and BU.out b3)
 have z3 := b3.size
 have MK := hq (MK1.out u3 a' q' fs G QF.out (LO.out.below b3) (fun g hg => by have := (BD.out g hg).2; have := S5.out; omega))
 replace Y3 : Hid (MBox 28 u3 X #[.int .i64 sz, .slice a K q, .slice none 0 0, .slice none 0 0, .slice none 0 0, .slice none 0 0]) := hq (Y3.out.step b3)
 replace Y5 : Hid (MBox 28 u3 Y #[.int .i64 sz, .slice a' K q', .slice none 0 0, .slice none 0 0, .slice none 0 0, .slice none 0 0]) := hq (Y5.out.step b3)
 clear EQ b3 c3 c5 z3 LO LF
 have c5 := Y5.out.cells
 go_wp2_with fail
 refine MK.out.mono ?_
 rintro e u4 ⟨rfl, lm, ch⟩
 replace B1 := hq (B1.out.trans (ch.below (fun g hg e => by have := (BD.out g e).1; have := S3.out; have := WX.out; omega) B1.out.size))
 replace BU := hq (BU.out.trans (ch.below (fun g hg e => by have := (BD.out g e).1; omega) BU.out.size))
 replace Y3 : Hid (MBox 28 u4 X #[.int .i64 sz, .slice a K q, .slice none 0 0, .slice none 0 0, .slice none 0 0, .slice none 0 0]) := hq (row_chg Y3.out ch (fun e => by have := (BD.out _ e).1; have := S3.out; omega))
 replace Y5 : Hid (MBox 28 u4 Y #[.int .i64 sz, .slice a' K q', .slice none 0 0, .slice none 0 0, .slice none 0 0, .slice none 0 0]) := hq (row_chg Y5.out ch (fun e => by have := (BD.out _ e).2; omega))
 have LM := hq lm
 have B4 : Hid (Below u4.heap.size u4 u4) := Below.refl _ _
 clear MK lm ch c5 MK1
 have c5 := Y5.out.cells
 have HD := hq (HD1.out u4 a' q' fs QF.out LM.out)
 have hm0 : ¬ (1 + (sumE (nodK 1) fs fs.length : Nat) : Int) < 0 := by omega
 generalize hmg : (1 + (sumE (nodK 1) fs fs.length : Nat) : Int) = mg at *
 have HMG := hq hmg
 clear hmg
 have hmm : (mg != mg) = false := by simp
 go_wp2_with fail
 refine HD.out.mono ?_
 rintro e u5 ⟨rfl, b5⟩
 replace B1 := hq (Below.and B1.out b5)
 replace BU := hq (Below.and BU.out b5)
 replace B4 := hq (Below.and B4.out b5)
 replace Y3 : Hid (MBox 28 u5 X #[.int .i64 sz, .slice a K q, .slice none 0 0, .slice none 0 0, .slice none 0 0, .slice none 0 0]) := hq (Y3.out.step b5)
 replace Y5 : Hid (MBox 28 u5 Y #[.int .i64 sz, .slice a' K q', .slice none 0 0, .slice none 0 0, .slice none 0 0, .slice none 0 0]) := hq (Y5.out.step b5)
 clear HD b5 c5
 go_wp2_with fail
 refine (IP1.out u5).mono ?_
 rintro e u6 ⟨a2, q2, hs, G2, rfl, qh, lh, -, -, b6⟩
 have QH := hq qh
 have bn := bel_nw u6 (.cells #[.int .i64 sz, .slice a2 K q2, .slice none 0 0, .slice none 0 0, .slice none 0 0, .slice none 0 0] 28)
 have LH := hq (lh.below (nodAt_b 1) bn)
 replace B1 := hq (Below.and (Below.and B1.out b6) bn)
 replace BU := hq (Below.and (Below.and BU.out b6) bn)
 replace B4 := hq (Below.and (Below.and B4.out b6) bn)
 replace Y3 : Hid (MBox 28 (u6.alloc (.cells #[.int .i64 sz, .slice a2 K q2, .slice none 0 0, .slice none 0 0, .slice none 0 0, .slice none 0 0] 28)) X #[.int .i64 sz, .slice a K q, .slice none 0 0, .slice none 0 0, .slice none 0 0, .slice none 0 0]) := hq ((Y3.out.step b6).step bn)
 replace Y5 : Hid (MBox 28 (u6.alloc (.cells #[.int .i64 sz, .slice a2 K q2, .slice none 0 0, .slice none 0 0, .slice none 0 0, .slice none 0 0] 28)) Y #[.int .i64 sz, .slice a' K q', .slice none 0 0, .slice none 0 0, .slice none 0 0, .slice none 0 0]) := hq ((Y5.out.step b6).step bn)
 have Y9 : Hid (MBox 28 (u6.alloc (.cells #[.int .i64 sz, .slice a2 K q2, .slice none 0 0, .slice none 0 0, .slice none 0 0, .slice none 0 0] 28)) u6.heap.size #[.int .i64 sz, .slice a2 K q2, .slice none 0 0, .slice none 0 0, .slice none 0 0, .slice none 0 0]) := MBox.start _ u6 _
 clear qh lh b6 bn IP1
 go_upto_region 14 with fail
 generalize (u6.alloc (.cells #[.int .i64 sz, .slice a2 K q2, .slice none 0 0, .slice none 0 0, .slice none 0 0, .slice none 0 0] 28)) = U6 at *
 generalize u6.heap.size = V at *
 have c3 := Y3.out.cells
 have c9 := Y9.out.cells
 have EQ := hq (EQ1.out U6 a2 a q2 q hs es QH.out QE1.out LH.out (LA.out.below (nodAt_b 1) BU.out))
 go_wp2_with fail
 refine EQ.out.mono ?_
 rintro e u7 ⟨rfl, b7⟩
 replace B1 := hq (Below.and B1.out b7)
 replace B4 := hq (Below.and B4.out b7)
 replace Y5 : Hid (MBox 28 u7 Y #[.int .i64 sz, .slice a' K q', .slice none 0 0, .slice none 0 0, .slice none 0 0, .slice none 0 0]) := hq (Y5.out.step b7)
 clear EQ b7 c3 c9 EQ1 Y3 Y9 BU LH LA
 have c5 := Y5.out.cells
 have HE := hq (HD1.out u7 a' q' fs QF.out (LM.out.below (nodAt_b 1) B4.out))
 rw [HMG.out] at HE
 go_wp2_with fail
 refine HE.out.mono ?_
 rintro e u8 ⟨rfl, b8⟩
 replace B1 := hq (Below.and B1.out b8)
 clear HE b8 c5
 go_wp2
 go_ret
 exact ⟨rfl, B1.out⟩
end
section
open Go.ChangeShapes Go.WideShapes Go.ChangeAt Go.RowKit Go.Deep

theorem Try.own : ownKnob Try.prog.godebug = none := by kernel_rfl
theorem Try.laidOut : laidOutB Try.prog = true := by kernel_rfl
end
end Go.Proofs.Ytdcladffnjikkaa
