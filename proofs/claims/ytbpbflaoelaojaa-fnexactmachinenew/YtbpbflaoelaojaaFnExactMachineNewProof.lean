/-
  FnExactMachineNew holds: the new machine is what the specification's is, and owns nothing that could be shared. No condition.
-/
import Derived.Test.YtbpbflaoelaojaaMem
import Derived.Test.YtbpbflaoelaojaaFrame
import Derived.WalkKit
import Derived.WalkSpells
import Derived.WalkLawsBesides
import Derived.ProofKit
import Derived.Lib.SmallJoins
namespace Go.Proofs.Ytbpbflaoelaojaa
open Go.ChangeShapes Go.WideShapes Go.ChangeAt Go.RowKit Go.Joins

theorem bel_new (w : World) (o : Obj) : Below w.heap.size w (w.alloc o) := (Below.refl _ _).alloc (Nat.le_refl _) _
theorem six_at {W : World} {R : Nat} {t : TypeId} {x0 x1 x2 x3 x4 x5 : Value} (a b c d e f : Value) (h : W.heap[R]? = some (.cells #[x0, x1, x2, x3, x4, x5] t (0, 0))) : ((((((W.setCell ⟨R, 0, none⟩ a).setCell ⟨R, 1, none⟩ b).setCell ⟨R, 2, none⟩ c).setCell ⟨R, 3, none⟩ d).setCell ⟨R, 4, none⟩ e).setCell ⟨R, 5, none⟩ f).heap[R]? = some (.cells #[a, b, c, d, e, f] t (0, 0)) := by
  have h0 := heap_setCell_same W R 0 _ _ a h
  have h1 := heap_setCell_same _ R 1 _ _ b h0
  have h2 := heap_setCell_same _ R 2 _ _ c h1
  have h3 := heap_setCell_same _ R 3 _ _ d h2
  have h4 := heap_setCell_same _ R 4 _ _ e h3
  have h5 := heap_setCell_same _ R 5 _ _ f h4
  simpa using h5
theorem six_chg (W : World) (R : Nat) (a b c d e f : Value) : Chg (fun g => g = R) W ((((((W.setCell ⟨R, 0, none⟩ a).setCell ⟨R, 1, none⟩ b).setCell ⟨R, 2, none⟩ c).setCell ⟨R, 3, none⟩ d).setCell ⟨R, 4, none⟩ e).setCell ⟨R, 5, none⟩ f) :=
  ((((((Chg.refl (fun g => g = R) W).setAt R 0 rfl a).setAt R 1 rfl b).setAt R 2 rfl c).setAt R 3 rfl d).setAt R 4 rfl e).setAt R 5 rfl f

theorem eqPairS0 (w : World) : Calls Try.prog 52 #[.slice none 0 0, .slice none 0 0] w fun e w' => e = .returned (.bool true) ∧ w' = w := by
  go_enter Try.func52, Try.ntmps52
  go_wp2
  go_loopw [5] (fun i wr => i = .int .i64 0 ∧ wr = w) (fun _ _ => 0)
  case atStart => exact ⟨rfl, rfl⟩
  case round =>
    obtain ⟨rfl, rfl⟩ := hrel
    go_wp2
    go_ret
    exact ⟨rfl, rfl⟩

theorem eqIntS0 (w : World) : Calls Try.prog 53 #[.slice none 0 0, .slice none 0 0] w fun e w' => e = .returned (.bool true) ∧ w' = w := by
  go_enter Try.func53, Try.ntmps53
  go_wp2
  go_loopw [5] (fun i wr => i = .int .i64 0 ∧ wr = w) (fun _ _ => 0)
  case atStart => exact ⟨rfl, rfl⟩
  case round =>
    obtain ⟨rfl, rfl⟩ := hrel
    go_wp2
    go_ret
    exact ⟨rfl, rfl⟩

theorem eqTreeS0 (w : World) : Calls Try.prog 54 #[.slice none 0 0, .slice none 0 0] w fun e w' => e = .returned (.bool true) ∧ w' = w := by
  go_enter Try.func54, Try.ntmps54
  go_wp2
  go_loopw [5] (fun i wr => i = .int .i64 0 ∧ wr = w) (fun _ _ => 0)
  case atStart => exact ⟨rfl, rfl⟩
  case round =>
    obtain ⟨rfl, rfl⟩ := hrel
    go_wp2
    go_ret
    exact ⟨rfl, rfl⟩

theorem eqMsgS0 (w : World) : Calls Try.prog 55 #[.slice none 0 0, .slice none 0 0] w fun e w' => e = .returned (.bool true) ∧ w' = w := by
  go_enter Try.func55, Try.ntmps55
  go_wp2
  go_loopw [5] (fun i wr => i = .int .i64 0 ∧ wr = w) (fun _ _ => 0)
  case atStart => exact ⟨rfl, rfl⟩
  case round =>
    obtain ⟨rfl, rfl⟩ := hrel
    go_wp2
    go_ret
    exact ⟨rfl, rfl⟩

theorem eqDoneS0 (w : World) : Calls Try.prog 32 #[.slice none 0 0, .slice none 0 0] w fun e w' => e = .returned (.bool true) ∧ w' = w := by
  go_enter Try.func32, Try.ntmps32
  go_wp2
  go_loopw [5] (fun i wr => i = .int .i64 0 ∧ wr = w) (fun _ _ => 0)
  case atStart => exact ⟨rfl, rfl⟩
  case round =>
    obtain ⟨rfl, rfl⟩ := hrel
    go_wp2
    go_ret
    exact ⟨rfl, rfl⟩

theorem markPairS0 (w : World) : Calls Try.prog 57 #[.slice none 0 0, .int .i64 1] w fun e w' => e = .returned (.int .i64 1) ∧ w' = w := by
  go_enter Try.func57, Try.ntmps57
  go_wp2
  go_loopw [1, 5] (fun k i wr => k = .int .i64 1 ∧ i = .int .i64 0 ∧ wr = w) (fun _ _ _ => 0)
  case atStart => exact ⟨rfl, rfl, rfl⟩
  case round =>
    obtain ⟨rfl, rfl, rfl⟩ := hrel
    go_wp2
    go_ret
    exact ⟨rfl, rfl⟩

theorem markIntS0 (w : World) : Calls Try.prog 58 #[.slice none 0 0, .int .i64 1] w fun e w' => e = .returned (.int .i64 1) ∧ w' = w := by
  go_enter Try.func58, Try.ntmps58
  go_wp2
  go_loopw [1, 5] (fun k i wr => k = .int .i64 1 ∧ i = .int .i64 0 ∧ wr = w) (fun _ _ _ => 0)
  case atStart => exact ⟨rfl, rfl, rfl⟩
  case round =>
    obtain ⟨rfl, rfl, rfl⟩ := hrel
    go_wp2
    go_ret
    exact ⟨rfl, rfl⟩

theorem markTreeS0 (w : World) : Calls Try.prog 59 #[.slice none 0 0, .int .i64 1] w fun e w' => e = .returned (.int .i64 1) ∧ w' = w := by
  go_enter Try.func59, Try.ntmps59
  go_wp2
  go_loopw [1, 5] (fun k i wr => k = .int .i64 1 ∧ i = .int .i64 0 ∧ wr = w) (fun _ _ _ => 0)
  case atStart => exact ⟨rfl, rfl, rfl⟩
  case round =>
    obtain ⟨rfl, rfl, rfl⟩ := hrel
    go_wp2
    go_ret
    exact ⟨rfl, rfl⟩

theorem markMsgS0 (w : World) : Calls Try.prog 60 #[.slice none 0 0, .int .i64 1] w fun e w' => e = .returned (.int .i64 1) ∧ w' = w := by
  go_enter Try.func60, Try.ntmps60
  go_wp2
  go_loopw [1, 5] (fun k i wr => k = .int .i64 1 ∧ i = .int .i64 0 ∧ wr = w) (fun _ _ _ => 0)
  case atStart => exact ⟨rfl, rfl, rfl⟩
  case round =>
    obtain ⟨rfl, rfl, rfl⟩ := hrel
    go_wp2
    go_ret
    exact ⟨rfl, rfl⟩

theorem markDoneS0 (w : World) : Calls Try.prog 36 #[.slice none 0 0, .int .i64 1] w fun e w' => e = .returned (.int .i64 1) ∧ w' = w := by
  go_enter Try.func36, Try.ntmps36
  go_wp2
  go_loopw [1, 5] (fun k i wr => k = .int .i64 1 ∧ i = .int .i64 0 ∧ wr = w) (fun _ _ _ => 0)
  case atStart => exact ⟨rfl, rfl, rfl⟩
  case round =>
    obtain ⟨rfl, rfl, rfl⟩ := hrel
    go_wp2
    go_ret
    exact ⟨rfl, rfl⟩

theorem heldPairS0 (w : World) : Calls Try.prog 61 #[.slice none 0 0, .int .i64 1] w fun e w' => e = .returned (.int .i64 1) ∧ w' = w := by
  go_enter Try.func61, Try.ntmps61
  go_wp2
  go_loopw [1, 5] (fun k i wr => k = .int .i64 1 ∧ i = .int .i64 0 ∧ wr = w) (fun _ _ _ => 0)
  case atStart => exact ⟨rfl, rfl, rfl⟩
  case round =>
    obtain ⟨rfl, rfl, rfl⟩ := hrel
    go_wp2
    go_ret
    exact ⟨rfl, rfl⟩

theorem heldIntS0 (w : World) : Calls Try.prog 62 #[.slice none 0 0, .int .i64 1] w fun e w' => e = .returned (.int .i64 1) ∧ w' = w := by
  go_enter Try.func62, Try.ntmps62
  go_wp2
  go_loopw [1, 5] (fun k i wr => k = .int .i64 1 ∧ i = .int .i64 0 ∧ wr = w) (fun _ _ _ => 0)
  case atStart => exact ⟨rfl, rfl, rfl⟩
  case round =>
    obtain ⟨rfl, rfl, rfl⟩ := hrel
    go_wp2
    go_ret
    exact ⟨rfl, rfl⟩

theorem heldTreeS0 (w : World) : Calls Try.prog 63 #[.slice none 0 0, .int .i64 1] w fun e w' => e = .returned (.int .i64 1) ∧ w' = w := by
  go_enter Try.func63, Try.ntmps63
  go_wp2
  go_loopw [1, 5] (fun k i wr => k = .int .i64 1 ∧ i = .int .i64 0 ∧ wr = w) (fun _ _ _ => 0)
  case atStart => exact ⟨rfl, rfl, rfl⟩
  case round =>
    obtain ⟨rfl, rfl, rfl⟩ := hrel
    go_wp2
    go_ret
    exact ⟨rfl, rfl⟩

theorem heldMsgS0 (w : World) : Calls Try.prog 64 #[.slice none 0 0, .int .i64 1] w fun e w' => e = .returned (.int .i64 1) ∧ w' = w := by
  go_enter Try.func64, Try.ntmps64
  go_wp2
  go_loopw [1, 5] (fun k i wr => k = .int .i64 1 ∧ i = .int .i64 0 ∧ wr = w) (fun _ _ _ => 0)
  case atStart => exact ⟨rfl, rfl, rfl⟩
  case round =>
    obtain ⟨rfl, rfl, rfl⟩ := hrel
    go_wp2
    go_ret
    exact ⟨rfl, rfl⟩

theorem heldDoneS0 (w : World) : Calls Try.prog 38 #[.slice none 0 0, .int .i64 1] w fun e w' => e = .returned (.int .i64 1) ∧ w' = w := by
  go_enter Try.func38, Try.ntmps38
  go_wp2
  go_loopw [1, 5] (fun k i wr => k = .int .i64 1 ∧ i = .int .i64 0 ∧ wr = w) (fun _ _ _ => 0)
  case atStart => exact ⟨rfl, rfl, rfl⟩
  case round =>
    obtain ⟨rfl, rfl, rfl⟩ := hrel
    go_wp2
    go_ret
    exact ⟨rfl, rfl⟩

abbrev emptyV : Value := .agg #[.bool true, .slice none 0 0, .slice none 0 0, .slice none 0 0, .slice none 0 0]
abbrev emptyM : Value := .agg #[.bool true, .slice none 0 0, .slice none 0 0, .slice none 0 0, .slice none 0 0, .slice none 0 0]

theorem specTreeNew0 (w : World) : Calls Try.prog 33 #[] w fun e w' => e = .returned emptyV ∧ Below w.heap.size w w' := by
  go_enter Try.func33, Try.ntmps33
  go_wp2
  refine bodyPost_ret (v := emptyV) (by simp [results, Try.results33, go_sem]) rfl ⟨rfl, bel_new _ _⟩

theorem specMachineNew0 (w : World) : Calls Try.prog 14 #[] w fun e w' => e = .returned emptyM ∧ Below w.heap.size w w' := by
  have B0 : Hid (Below w.heap.size w (w.alloc (.cells #[.bool false, .slice none 0 0, .slice none 0 0, .slice none 0 0, .slice none 0 0, .slice none 0 0] 50))) := bel_new w _
  have hn : (w.alloc (.cells #[.bool false, .slice none 0 0, .slice none 0 0, .slice none 0 0, .slice none 0 0, .slice none 0 0] 50)).heap[w.heap.size]? = some (.cells #[.bool false, .slice none 0 0, .slice none 0 0, .slice none 0 0, .slice none 0 0, .slice none 0 0] 50 (0, 0)) := heap_alloc_new w _
  have N0 : Hid ((w.alloc (.cells #[.bool false, .slice none 0 0, .slice none 0 0, .slice none 0 0, .slice none 0 0, .slice none 0 0] 50)).heap[w.heap.size]? = some (.cells #[.bool false, .slice none 0 0, .slice none 0 0, .slice none 0 0, .slice none 0 0, .slice none 0 0] 50 (0, 0))) := hn
  clear hn
  go_enter Try.func14, Try.ntmps14
  go_wp2_with fail
  generalize (w.alloc (.cells #[.bool false, .slice none 0 0, .slice none 0 0, .slice none 0 0, .slice none 0 0, .slice none 0 0] 50)) = W at *
  refine Calls.mono (specTreeNew0 _) ?_
  rintro e w1 ⟨rfl, b1⟩
  have hl := (Array.getElem?_eq_some_iff.1 N0.out).1
  have n1 := (b1.block _ hl).trans N0.out
  have B1 : Hid (Below w.heap.size w w1) := Below.and B0.out b1
  clear b1 N0 B0 hl
  have fz : ∀ j, w1.frozen? ⟨w.heap.size, j, none⟩ = false := fun j => frozen_of_cells n1
  have c0 : w1.cell? ⟨w.heap.size, 0, none⟩ = some (.bool false) := by rw [cell_of_cells n1]; rfl
  have c1 : w1.cell? ⟨w.heap.size, 1, none⟩ = some (.slice none 0 0) := by rw [cell_of_cells n1]; rfl
  have c2 : w1.cell? ⟨w.heap.size, 2, none⟩ = some (.slice none 0 0) := by rw [cell_of_cells n1]; rfl
  have c3 : w1.cell? ⟨w.heap.size, 3, none⟩ = some (.slice none 0 0) := by rw [cell_of_cells n1]; rfl
  have c4 : w1.cell? ⟨w.heap.size, 4, none⟩ = some (.slice none 0 0) := by rw [cell_of_cells n1]; rfl
  have c5 : w1.cell? ⟨w.heap.size, 5, none⟩ = some (.slice none 0 0) := by rw [cell_of_cells n1]; rfl
  have n2 := six_at (.bool true) (.slice none 0 0) (.slice none 0 0) (.slice none 0 0) (.slice none 0 0) (.slice none 0 0) n1
  have B2 : Hid _ := B1.out.trans ((six_chg w1 w.heap.size (.bool true) (.slice none 0 0) (.slice none 0 0) (.slice none 0 0) (.slice none 0 0) (.slice none 0 0)).below (fun g _ hg => by omega) B1.out.size)
  clear n1 B1
  go_wp2_with fail
  simp [bodyPost, results, Try.results14, go_sem, cell_of_cells n2]
  exact B2.out

theorem implTreeNew0 (w : World) : Calls Try.prog 34 #[] w fun e w' => e = .returned emptyV ∧ Below w.heap.size w w' := by
  go_enter Try.func34, Try.ntmps34
  go_wp2
  refine bodyPost_ret (v := emptyV) (by simp [results, Try.results34, go_sem]) rfl ⟨rfl, bel_new _ _⟩

theorem implMachineNew0 (w : World) : Calls Try.prog 15 #[] w fun e w' => e = .returned emptyM ∧ Below w.heap.size w w' := by
  have B0 : Hid (Below w.heap.size w (w.alloc (.cells #[.bool false, .slice none 0 0, .slice none 0 0, .slice none 0 0, .slice none 0 0, .slice none 0 0] 50))) := bel_new w _
  have hn : (w.alloc (.cells #[.bool false, .slice none 0 0, .slice none 0 0, .slice none 0 0, .slice none 0 0, .slice none 0 0] 50)).heap[w.heap.size]? = some (.cells #[.bool false, .slice none 0 0, .slice none 0 0, .slice none 0 0, .slice none 0 0, .slice none 0 0] 50 (0, 0)) := heap_alloc_new w _
  have N0 : Hid ((w.alloc (.cells #[.bool false, .slice none 0 0, .slice none 0 0, .slice none 0 0, .slice none 0 0, .slice none 0 0] 50)).heap[w.heap.size]? = some (.cells #[.bool false, .slice none 0 0, .slice none 0 0, .slice none 0 0, .slice none 0 0, .slice none 0 0] 50 (0, 0))) := hn
  clear hn
  go_enter Try.func15, Try.ntmps15
  go_wp2_with fail
  generalize (w.alloc (.cells #[.bool false, .slice none 0 0, .slice none 0 0, .slice none 0 0, .slice none 0 0, .slice none 0 0] 50)) = W at *
  refine Calls.mono (implTreeNew0 _) ?_
  rintro e w1 ⟨rfl, b1⟩
  have hl := (Array.getElem?_eq_some_iff.1 N0.out).1
  have n1 := (b1.block _ hl).trans N0.out
  have B1 : Hid (Below w.heap.size w w1) := Below.and B0.out b1
  clear b1 N0 B0 hl
  have fz : ∀ j, w1.frozen? ⟨w.heap.size, j, none⟩ = false := fun j => frozen_of_cells n1
  have c0 : w1.cell? ⟨w.heap.size, 0, none⟩ = some (.bool false) := by rw [cell_of_cells n1]; rfl
  have c1 : w1.cell? ⟨w.heap.size, 1, none⟩ = some (.slice none 0 0) := by rw [cell_of_cells n1]; rfl
  have c2 : w1.cell? ⟨w.heap.size, 2, none⟩ = some (.slice none 0 0) := by rw [cell_of_cells n1]; rfl
  have c3 : w1.cell? ⟨w.heap.size, 3, none⟩ = some (.slice none 0 0) := by rw [cell_of_cells n1]; rfl
  have c4 : w1.cell? ⟨w.heap.size, 4, none⟩ = some (.slice none 0 0) := by rw [cell_of_cells n1]; rfl
  have c5 : w1.cell? ⟨w.heap.size, 5, none⟩ = some (.slice none 0 0) := by rw [cell_of_cells n1]; rfl
  have n2 := six_at (.bool true) (.slice none 0 0) (.slice none 0 0) (.slice none 0 0) (.slice none 0 0) (.slice none 0 0) n1
  have B2 : Hid _ := B1.out.trans ((six_chg w1 w.heap.size (.bool true) (.slice none 0 0) (.slice none 0 0) (.slice none 0 0) (.slice none 0 0) (.slice none 0 0)).below (fun g _ hg => by omega) B1.out.size)
  clear n1 B1
  go_wp2_with fail
  simp [bodyPost, results, Try.results15, go_sem, cell_of_cells n2]
  exact B2.out

theorem eqTree0 (w : World) : Calls Try.prog 31 #[emptyV, emptyV] w fun e w' => e = .returned (.bool true) ∧ Below w.heap.size w w' := by
  go_enter Try.func31, Try.ntmps31
  go_wp2_with fail
  refine Calls.mono (eqPairS0 _) ?_
  rintro e w1 ⟨rfl, rfl⟩
  go_wp2_with fail
  refine Calls.mono (eqIntS0 _) ?_
  rintro e w1 ⟨rfl, rfl⟩
  go_wp2_with fail
  refine Calls.mono (eqTreeS0 _) ?_
  rintro e w1 ⟨rfl, rfl⟩
  go_wp2_with fail
  refine Calls.mono (eqMsgS0 _) ?_
  rintro e w1 ⟨rfl, rfl⟩
  go_wp2
  go_ret
  exact ⟨rfl, Below.and (bel_new _ _) (bel_new _ _)⟩

theorem markTree0 (w : World) : Calls Try.prog 35 #[emptyV, .int .i64 1] w fun e w' => e = .returned (.int .i64 1) ∧ Below w.heap.size w w' := by
  go_enter Try.func35, Try.ntmps35
  go_wp2_with fail
  refine Calls.mono (markPairS0 _) ?_
  rintro e w1 ⟨rfl, rfl⟩
  go_wp2_with fail
  refine Calls.mono (markIntS0 _) ?_
  rintro e w1 ⟨rfl, rfl⟩
  go_wp2_with fail
  refine Calls.mono (markTreeS0 _) ?_
  rintro e w1 ⟨rfl, rfl⟩
  go_wp2_with fail
  refine Calls.mono (markMsgS0 _) ?_
  rintro e w1 ⟨rfl, rfl⟩
  go_wp2
  go_ret
  exact ⟨rfl, bel_new _ _⟩

theorem heldTree0 (w : World) : Calls Try.prog 37 #[emptyV, .int .i64 1] w fun e w' => e = .returned (.int .i64 1) ∧ Below w.heap.size w w' := by
  go_enter Try.func37, Try.ntmps37
  go_wp2_with fail
  refine Calls.mono (heldPairS0 _) ?_
  rintro e w1 ⟨rfl, rfl⟩
  go_wp2_with fail
  refine Calls.mono (heldIntS0 _) ?_
  rintro e w1 ⟨rfl, rfl⟩
  go_wp2_with fail
  refine Calls.mono (heldTreeS0 _) ?_
  rintro e w1 ⟨rfl, rfl⟩
  go_wp2_with fail
  refine Calls.mono (heldMsgS0 _) ?_
  rintro e w1 ⟨rfl, rfl⟩
  go_wp2
  go_ret
  exact ⟨rfl, bel_new _ _⟩

abbrev emptyA : Array Value := #[.bool true, .slice none 0 0, .slice none 0 0, .slice none 0 0, .slice none 0 0, .slice none 0 0]
/-- the box B of the new machine -/
def NewAt (w : World) (B : Nat) : Prop := w.heap[B]? = some (.cells emptyA 50 (0, 0))
theorem NewAt.start (w : World) : NewAt (w.alloc (.cells emptyA 50)) w.heap.size := heap_alloc_new w _
theorem NewAt.step {w w' : World} {B : Nat} (h : NewAt w B) (hb : Below w.heap.size w w') : NewAt w' B := (hb.block B (Array.getElem?_eq_some_iff.1 h).1).trans h
theorem NewAt.cells {w : World} {B : Nat} (h : NewAt w B) : ∀ j, w.cell? ⟨B, j, none⟩ = emptyA[j]? := fun j => cell_of_row _ _ j _ 50 (0, 0) h

theorem eqMachine0 (w : World) : Calls Try.prog 13 #[emptyM, emptyM] w fun e w' => e = .returned (.bool true) ∧ Below w.heap.size w w' := by
  have N1 : Hid (NewAt (w.alloc (.cells emptyA 50)) w.heap.size) := NewAt.start w
  have B1 : Hid (Below w.heap.size w (w.alloc (.cells emptyA 50))) := bel_new _ _
  have N2 : Hid (NewAt ((w.alloc (.cells emptyA 50)).alloc (.cells emptyA 50)) (w.alloc (.cells emptyA 50)).heap.size) := NewAt.start _
  have N1b : Hid (NewAt ((w.alloc (.cells emptyA 50)).alloc (.cells emptyA 50)) w.heap.size) := N1.out.step (bel_new _ _)
  have B2 : Hid (Below w.heap.size w ((w.alloc (.cells emptyA 50)).alloc (.cells emptyA 50))) := Below.and (bel_new _ _) (bel_new _ _)
  have e1 : (w.alloc (.cells emptyA 50)).heap.size = w.heap.size + 1 := by simp
  rw [e1] at N2
  have c1 := N1b.out.cells
  have c2 := N2.out.cells
  clear N1 B1 e1
  go_enter Try.func13, Try.ntmps13
  go_wp2_with fail
  generalize (w.alloc (.cells emptyA 50)).alloc (.cells emptyA 50) = W at *
  refine Calls.mono (eqTree0 _) ?_
  rintro e w1 ⟨rfl, b1⟩
  have B3 : Hid (Below w.heap.size w w1) := Below.and B2.out b1
  have N3 : Hid (NewAt w1 w.heap.size) := N1b.out.step b1
  have N4 : Hid (NewAt w1 (w.heap.size + 1)) := N2.out.step b1
  clear c1 c2 N1b N2 B2 b1
  have c1 := N3.out.cells
  have c2 := N4.out.cells
  go_wp2_with fail
  refine Calls.mono (eqDoneS0 _) ?_
  rintro e w2 ⟨rfl, rfl⟩
  go_wp2
  go_ret
  exact ⟨rfl, B3.out⟩

theorem markMachine0 (w : World) : Calls Try.prog 16 #[emptyM, .int .i64 1] w fun e w' => e = .returned (.int .i64 1) ∧ Below w.heap.size w w' := by
  have N1 : Hid (NewAt (w.alloc (.cells emptyA 50)) w.heap.size) := NewAt.start w
  have B1 : Hid (Below w.heap.size w (w.alloc (.cells emptyA 50))) := bel_new _ _
  have c1 := N1.out.cells
  go_enter Try.func16, Try.ntmps16
  go_wp2_with fail
  generalize w.alloc (.cells emptyA 50) = W at *
  refine Calls.mono (markTree0 _) ?_
  rintro e w1 ⟨rfl, b1⟩
  have B3 : Hid (Below w.heap.size w w1) := Below.and B1.out b1
  have N3 : Hid (NewAt w1 w.heap.size) := N1.out.step b1
  clear c1 N1 B1 b1
  have c1 := N3.out.cells
  go_wp2_with fail
  refine Calls.mono (markDoneS0 _) ?_
  rintro e w2 ⟨rfl, rfl⟩
  go_wp2
  go_ret
  exact ⟨rfl, B3.out⟩

theorem heldMachine0 (w : World) : Calls Try.prog 17 #[emptyM, .int .i64 1] w fun e w' => e = .returned (.int .i64 1) ∧ Below w.heap.size w w' := by
  have N1 : Hid (NewAt (w.alloc (.cells emptyA 50)) w.heap.size) := NewAt.start w
  have B1 : Hid (Below w.heap.size w (w.alloc (.cells emptyA 50))) := bel_new _ _
  have c1 := N1.out.cells
  go_enter Try.func17, Try.ntmps17
  go_wp2_with fail
  generalize w.alloc (.cells emptyA 50) = W at *
  refine Calls.mono (heldTree0 _) ?_
  rintro e w1 ⟨rfl, b1⟩
  have B3 : Hid (Below w.heap.size w w1) := Below.and B1.out b1
  have N3 : Hid (NewAt w1 w.heap.size) := N1.out.step b1
  clear c1 N1 B1 b1
  have c1 := N3.out.cells
  go_wp2_with fail
  refine Calls.mono (heldDoneS0 _) ?_
  rintro e w2 ⟨rfl, rfl⟩
  go_wp2
  go_ret
  exact ⟨rfl, B3.out⟩

set_option maxHeartbeats 1000000 in
theorem fnExactMachineNew_any (w : World) : Calls Try.prog 5 #[] w fun e w' => e = .returned (.bool true) ∧ Below w.heap.size w w' := by
  go_enter Try.func5, Try.ntmps5
  go_wp2_with fail
  refine Calls.mono (specMachineNew0 _) ?_
  rintro e w1 ⟨rfl, b1⟩
  have B1 : Hid (Below w.heap.size w (w1.alloc (.cells emptyA 50))) := Below.and b1 (bel_new _ _)
  have N1 : Hid (NewAt (w1.alloc (.cells emptyA 50)) w1.heap.size) := NewAt.start w1
  clear b1
  go_wp2_with fail
  refine Calls.mono (implMachineNew0 _) ?_
  rintro e w2 ⟨rfl, b2⟩
  have B2 : Hid (Below w.heap.size w (w2.alloc (.cells emptyA 50))) := Below.and (Below.and B1.out b2) (bel_new _ _)
  have N1b : Hid (NewAt (w2.alloc (.cells emptyA 50)) w1.heap.size) := (N1.out.step b2).step (bel_new _ _)
  have N2 : Hid (NewAt (w2.alloc (.cells emptyA 50)) w2.heap.size) := NewAt.start w2
  clear b2 B1 N1
  generalize w1.heap.size = p1 at *
  have c1 := N1b.out.cells
  have c2 := N2.out.cells
  go_wp2_with fail
  generalize w2.heap.size = p2 at *
  refine Calls.mono (eqMachine0 _) ?_
  rintro e w3 ⟨rfl, b3⟩
  have B3 : Hid (Below w.heap.size w w3) := Below.and B2.out b3
  have N1c : Hid (NewAt w3 p1) := N1b.out.step b3
  have N2c : Hid (NewAt w3 p2) := N2.out.step b3
  clear c1 c2 b3 N1b N2 B2
  have N1b := N1c
  have N2 := N2c
  have c1 := N1b.out.cells
  have c2 := N2.out.cells
  clear N1c N2c
  go_wp2_with fail
  refine Calls.mono (markMachine0 _) ?_
  rintro e w4 ⟨rfl, b4⟩
  have B4 : Hid (Below w.heap.size w w4) := Below.and B3.out b4
  have N1c : Hid (NewAt w4 p1) := N1b.out.step b4
  have N2c : Hid (NewAt w4 p2) := N2.out.step b4
  clear c1 c2 b4 N1b N2 B3
  have N1b := N1c
  have N2 := N2c
  have c1 := N1b.out.cells
  have c2 := N2.out.cells
  clear N1c N2c
  go_wp2_with fail
  refine Calls.mono (heldMachine0 _) ?_
  rintro e w5 ⟨rfl, b5⟩
  have B5 : Hid (Below w.heap.size w w5) := Below.and B4.out b5
  have N1c : Hid (NewAt w5 p1) := N1b.out.step b5
  have N2c : Hid (NewAt w5 p2) := N2.out.step b5
  clear c1 c2 b5 N1b N2 B4
  have N1b := N1c
  have N2 := N2c
  have c1 := N1b.out.cells
  have c2 := N2.out.cells
  clear N1c N2c
  go_wp2_with fail
  refine Calls.mono (implMachineNew0 _) ?_
  rintro e w6 ⟨rfl, b6⟩
  have B6 : Hid (Below w.heap.size w (w6.alloc (.cells emptyA 50))) := Below.and (Below.and B5.out b6) (bel_new _ _)
  have N1c : Hid (NewAt (w6.alloc (.cells emptyA 50)) p1) := (N1b.out.step b6).step (bel_new _ _)
  have N2c : Hid (NewAt (w6.alloc (.cells emptyA 50)) p2) := (N2.out.step b6).step (bel_new _ _)
  have N3 : Hid (NewAt (w6.alloc (.cells emptyA 50)) w6.heap.size) := NewAt.start w6
  clear c1 c2 b6 N1b N2 B5
  have N1b := N1c
  have N2 := N2c
  clear N1c N2c
  have c1 := N1b.out.cells
  have c3 := N3.out.cells
  go_wp2_with fail
  refine Calls.mono (eqMachine0 _) ?_
  rintro e w7 ⟨rfl, b7⟩
  have B7 : Hid (Below w.heap.size w w7) := Below.and B6.out b7
  have c2 := (N2.out.step b7).cells
  clear c1 c3 b7 N1b N2 N3 B6
  go_wp2_with fail
  refine Calls.mono (heldMachine0 _) ?_
  rintro e w8 ⟨rfl, b8⟩
  have B8 : Hid (Below w.heap.size w w8) := Below.and B7.out b8
  clear c2 b8 B7
  go_wp2
  go_ret
  exact ⟨rfl, B8.out⟩

theorem Try.own : ownKnob Try.prog.godebug = none := by kernel_rfl

set_option maxRecDepth 100000 in
theorem machineNew_lifted (os : Os) (started : os.Started) (H : Type) (enc : TypeId × Value → H) :
    ReturnsInHanded {} Try.checked os 5 .any (Rows.fnExactMachineNewSpec.pre6 enc Try.prog Try.f5 Rows.fnExactMachineNewRow.domain false) (Rows.fnExactMachineNewSpec.post enc Try.prog Try.f5 false true false false) := by
  refine returnsInHanded_of_change (C := Try.checked) Try.own started (by kernel_rfl) Try.func5
    (ChangeSpec.witness6 (enc := enc) (C := Try.checked) false ⟨#[], #[], []⟩ 8 (by kernel_rfl) (by kernel_rfl) (by kernel_rfl) (by kernel_rfl)) ?_
  intro W base args ds gs before hval0 hW _ _
  have hW' := hW
  obtain ⟨p, q, hA0, hV, rfl, _, _⟩ := hW
  have hA : DataW.TrodAll enc Try.prog W 0 (fun _ => true) true Try.f5.params.toList args.toList ds p := hA0
  rw [Try.params5] at hA
  obtain ⟨rfl, rfl, rfl⟩ := trodAll_none hA
  obtain ⟨rfl, rfl⟩ := trodVars_none hV
  clear hA0 hval0
  refine (fnExactMachineNew_any W).mono fun e W' ⟨he, bel⟩ => ?_
  subst he
  exact ⟨_, rfl, _, _, _, [], _, [], hW', trodAll_mk1 (shut_bool Try.underlying4 _), trodAll_mk0, rfl, bel.frame _, fun h => by cases h⟩

theorem fnExactMachineNew_holds : Rows.FnExactMachineNewSaid :=
  OpenClaim.holds_of_wide 5 Try.f5 rfl rfl rfl rfl rfl rfl rfl ⟨rfl, rfl, rfl, rfl, rfl⟩ rfl rfl rfl rfl rfl (by kernel_rfl) Try.func5 (by kernel_rfl)
    (of_decide_eq_true (by kernel_rfl)) (by unfold Func.isWrapper; rw [if_neg (of_decide_eq_false (by kernel_rfl))]; exact ⟨rfl, rfl⟩)
    (fun os started H enc _ => machineNew_lifted os started H enc)


end Go.Proofs.Ytbpbflaoelaojaa
