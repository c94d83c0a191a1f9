/-
  FnExactTreeNew holds: the new tree is what the specification's is, and owns nothing that could be shared. No condition.
-/
import Derived.Test.YtobelcanfeekcaaRows
import Derived.WalkKit
import Derived.WalkSpells
import Derived.WalkLawsBesides
import Derived.ProofKit
import Derived.Lib.SmallJoins
namespace Go.Proofs.Ytobelcanfeekcaa
open Go.ChangeShapes Go.WideShapes Go.ChangeAt Go.RowKit Go.Joins

theorem Below.and {w w1 w2 : World} (h1 : Below w.heap.size w w1) (h2 : Below w1.heap.size w1 w2) : Below w.heap.size w w2 := h1.trans (h2.mono h1.size)
theorem bel_new (w : World) (o : Obj) : Below w.heap.size w (w.alloc o) := (Below.refl _ _).alloc (Nat.le_refl _) _
structure Hid (p : Prop) : Prop where
  out : p

theorem eq9 (w : World) : Calls Try.prog 9 #[.slice none 0 0, .slice none 0 0] w fun e w' => e = .returned (.bool true) ∧ w' = w := by
  go_enter Try.func9, Try.ntmps9
  go_wp2
  go_loopw [5] (fun i wr => i = .int .i64 0 ∧ wr = w) (fun _ _ => 0)
  case atStart => exact ⟨rfl, rfl⟩
  case round =>
    obtain ⟨rfl, rfl⟩ := hrel
    go_wp2
    go_ret
    exact ⟨rfl, rfl⟩

theorem eq10 (w : World) : Calls Try.prog 10 #[.slice none 0 0, .slice none 0 0] w fun e w' => e = .returned (.bool true) ∧ w' = w := by
  go_enter Try.func10, Try.ntmps10
  go_wp2
  go_loopw [5] (fun i wr => i = .int .i64 0 ∧ wr = w) (fun _ _ => 0)
  case atStart => exact ⟨rfl, rfl⟩
  case round =>
    obtain ⟨rfl, rfl⟩ := hrel
    go_wp2
    go_ret
    exact ⟨rfl, rfl⟩

theorem eq11 (w : World) : Calls Try.prog 11 #[.slice none 0 0, .slice none 0 0] w fun e w' => e = .returned (.bool true) ∧ w' = w := by
  go_enter Try.func11, Try.ntmps11
  go_wp2
  go_loopw [5] (fun i wr => i = .int .i64 0 ∧ wr = w) (fun _ _ => 0)
  case atStart => exact ⟨rfl, rfl⟩
  case round =>
    obtain ⟨rfl, rfl⟩ := hrel
    go_wp2
    go_ret
    exact ⟨rfl, rfl⟩

theorem eq12 (w : World) : Calls Try.prog 12 #[.slice none 0 0, .slice none 0 0] w fun e w' => e = .returned (.bool true) ∧ w' = w := by
  go_enter Try.func12, Try.ntmps12
  go_wp2
  go_loopw [5] (fun i wr => i = .int .i64 0 ∧ wr = w) (fun _ _ => 0)
  case atStart => exact ⟨rfl, rfl⟩
  case round =>
    obtain ⟨rfl, rfl⟩ := hrel
    go_wp2
    go_ret
    exact ⟨rfl, rfl⟩

theorem mk13 (w : World) : Calls Try.prog 13 #[.slice none 0 0, .int .i64 1] w fun e w' => e = .returned (.int .i64 1) ∧ w' = w := by
  go_enter Try.func13, Try.ntmps13
  go_wp2
  go_loopw [1, 5] (fun k i wr => k = .int .i64 1 ∧ i = .int .i64 0 ∧ wr = w) (fun _ _ _ => 0)
  case atStart => exact ⟨rfl, rfl, rfl⟩
  case round =>
    obtain ⟨rfl, rfl, rfl⟩ := hrel
    go_wp2
    go_ret
    exact ⟨rfl, rfl⟩

theorem mk14 (w : World) : Calls Try.prog 14 #[.slice none 0 0, .int .i64 1] w fun e w' => e = .returned (.int .i64 1) ∧ w' = w := by
  go_enter Try.func14, Try.ntmps14
  go_wp2
  go_loopw [1, 5] (fun k i wr => k = .int .i64 1 ∧ i = .int .i64 0 ∧ wr = w) (fun _ _ _ => 0)
  case atStart => exact ⟨rfl, rfl, rfl⟩
  case round =>
    obtain ⟨rfl, rfl, rfl⟩ := hrel
    go_wp2
    go_ret
    exact ⟨rfl, rfl⟩

theorem mk15 (w : World) : Calls Try.prog 15 #[.slice none 0 0, .int .i64 1] w fun e w' => e = .returned (.int .i64 1) ∧ w' = w := by
  go_enter Try.func15, Try.ntmps15
  go_wp2
  go_loopw [1, 5] (fun k i wr => k = .int .i64 1 ∧ i = .int .i64 0 ∧ wr = w) (fun _ _ _ => 0)
  case atStart => exact ⟨rfl, rfl, rfl⟩
  case round =>
    obtain ⟨rfl, rfl, rfl⟩ := hrel
    go_wp2
    go_ret
    exact ⟨rfl, rfl⟩

theorem mk16 (w : World) : Calls Try.prog 16 #[.slice none 0 0, .int .i64 1] w fun e w' => e = .returned (.int .i64 1) ∧ w' = w := by
  go_enter Try.func16, Try.ntmps16
  go_wp2
  go_loopw [1, 5] (fun k i wr => k = .int .i64 1 ∧ i = .int .i64 0 ∧ wr = w) (fun _ _ _ => 0)
  case atStart => exact ⟨rfl, rfl, rfl⟩
  case round =>
    obtain ⟨rfl, rfl, rfl⟩ := hrel
    go_wp2
    go_ret
    exact ⟨rfl, rfl⟩

theorem mk17 (w : World) : Calls Try.prog 17 #[.slice none 0 0, .int .i64 1] w fun e w' => e = .returned (.int .i64 1) ∧ w' = w := by
  go_enter Try.func17, Try.ntmps17
  go_wp2
  go_loopw [1, 5] (fun k i wr => k = .int .i64 1 ∧ i = .int .i64 0 ∧ wr = w) (fun _ _ _ => 0)
  case atStart => exact ⟨rfl, rfl, rfl⟩
  case round =>
    obtain ⟨rfl, rfl, rfl⟩ := hrel
    go_wp2
    go_ret
    exact ⟨rfl, rfl⟩

theorem mk18 (w : World) : Calls Try.prog 18 #[.slice none 0 0, .int .i64 1] w fun e w' => e = .returned (.int .i64 1) ∧ w' = w := by
  go_enter Try.func18, Try.ntmps18
  go_wp2
  go_loopw [1, 5] (fun k i wr => k = .int .i64 1 ∧ i = .int .i64 0 ∧ wr = w) (fun _ _ _ => 0)
  case atStart => exact ⟨rfl, rfl, rfl⟩
  case round =>
    obtain ⟨rfl, rfl, rfl⟩ := hrel
    go_wp2
    go_ret
    exact ⟨rfl, rfl⟩

theorem mk19 (w : World) : Calls Try.prog 19 #[.slice none 0 0, .int .i64 1] w fun e w' => e = .returned (.int .i64 1) ∧ w' = w := by
  go_enter Try.func19, Try.ntmps19
  go_wp2
  go_loopw [1, 5] (fun k i wr => k = .int .i64 1 ∧ i = .int .i64 0 ∧ wr = w) (fun _ _ _ => 0)
  case atStart => exact ⟨rfl, rfl, rfl⟩
  case round =>
    obtain ⟨rfl, rfl, rfl⟩ := hrel
    go_wp2
    go_ret
    exact ⟨rfl, rfl⟩

theorem mk20 (w : World) : Calls Try.prog 20 #[.slice none 0 0, .int .i64 1] w fun e w' => e = .returned (.int .i64 1) ∧ w' = w := by
  go_enter Try.func20, Try.ntmps20
  go_wp2
  go_loopw [1, 5] (fun k i wr => k = .int .i64 1 ∧ i = .int .i64 0 ∧ wr = w) (fun _ _ _ => 0)
  case atStart => exact ⟨rfl, rfl, rfl⟩
  case round =>
    obtain ⟨rfl, rfl, rfl⟩ := hrel
    go_wp2
    go_ret
    exact ⟨rfl, rfl⟩

abbrev emptyV : Value := .agg #[.bool true, .slice none 0 0, .slice none 0 0, .slice none 0 0, .slice none 0 0]

theorem new4 (w : World) : Calls Try.prog 4 #[] w fun e w' => e = .returned emptyV ∧ Below w.heap.size w w' := by
  go_enter Try.func4, Try.ntmps4
  go_wp2
  refine bodyPost_ret (v := emptyV) (by simp [results, Try.results4, go_sem]) rfl ⟨rfl, bel_new _ _⟩

theorem new5 (w : World) : Calls Try.prog 5 #[] w fun e w' => e = .returned emptyV ∧ Below w.heap.size w w' := by
  go_enter Try.func5, Try.ntmps5
  go_wp2
  refine bodyPost_ret (v := emptyV) (by simp [results, Try.results5, go_sem]) rfl ⟨rfl, bel_new _ _⟩

theorem eq6 (w : World) : Calls Try.prog 6 #[emptyV, emptyV] w fun e w' => e = .returned (.bool true) ∧ Below w.heap.size w w' := by
  go_enter Try.func6, Try.ntmps6
  go_wp2_with fail
  refine Calls.mono (eq9 _) ?_
  rintro e w1 ⟨rfl, rfl⟩
  go_wp2_with fail
  refine Calls.mono (eq10 _) ?_
  rintro e w1 ⟨rfl, rfl⟩
  go_wp2_with fail
  refine Calls.mono (eq11 _) ?_
  rintro e w1 ⟨rfl, rfl⟩
  go_wp2_with fail
  refine Calls.mono (eq12 _) ?_
  rintro e w1 ⟨rfl, rfl⟩
  go_wp2
  go_ret
  exact ⟨rfl, Below.and (bel_new _ _) (bel_new _ _)⟩

theorem mk7 (w : World) : Calls Try.prog 7 #[emptyV, .int .i64 1] w fun e w' => e = .returned (.int .i64 1) ∧ Below w.heap.size w w' := by
  go_enter Try.func7, Try.ntmps7
  go_wp2_with fail
  refine Calls.mono (mk13 _) ?_
  rintro e w1 ⟨rfl, rfl⟩
  go_wp2_with fail
  refine Calls.mono (mk14 _) ?_
  rintro e w1 ⟨rfl, rfl⟩
  go_wp2_with fail
  refine Calls.mono (mk15 _) ?_
  rintro e w1 ⟨rfl, rfl⟩
  go_wp2_with fail
  refine Calls.mono (mk16 _) ?_
  rintro e w1 ⟨rfl, rfl⟩
  go_wp2
  go_ret
  exact ⟨rfl, bel_new _ _⟩

theorem mk8 (w : World) : Calls Try.prog 8 #[emptyV, .int .i64 1] w fun e w' => e = .returned (.int .i64 1) ∧ Below w.heap.size w w' := by
  go_enter Try.func8, Try.ntmps8
  go_wp2_with fail
  refine Calls.mono (mk17 _) ?_
  rintro e w1 ⟨rfl, rfl⟩
  go_wp2_with fail
  refine Calls.mono (mk18 _) ?_
  rintro e w1 ⟨rfl, rfl⟩
  go_wp2_with fail
  refine Calls.mono (mk19 _) ?_
  rintro e w1 ⟨rfl, rfl⟩
  go_wp2_with fail
  refine Calls.mono (mk20 _) ?_
  rintro e w1 ⟨rfl, rfl⟩
  go_wp2
  go_ret
  exact ⟨rfl, bel_new _ _⟩

abbrev emptyA : Array Value := #[.bool true, .slice none 0 0, .slice none 0 0, .slice none 0 0, .slice none 0 0]
/-- the box B of the new tree -/
def NewAt (w : World) (B : Nat) : Prop := w.heap[B]? = some (.cells emptyA 27 (0, 0))
theorem NewAt.start (w : World) : NewAt (w.alloc (.cells emptyA 27)) w.heap.size := heap_alloc_new w _
theorem NewAt.step {w w' : World} {B : Nat} (h : NewAt w B) (hb : Below w.heap.size w w') : NewAt w' B := (hb.block B (Array.getElem?_eq_some_iff.1 h).1).trans h
theorem NewAt.cells {w : World} {B : Nat} (h : NewAt w B) : ∀ j, w.cell? ⟨B, j, none⟩ = emptyA[j]? := fun j => cell_of_row _ _ j _ 27 (0, 0) h

set_option maxHeartbeats 1000000 in
theorem fnExactTreeNew_any (w : World) : Calls Try.prog 3 #[] w fun e w' => e = .returned (.bool true) ∧ Below w.heap.size w w' := by
  go_enter Try.func3, Try.ntmps3
  go_wp2_with fail
  refine Calls.mono (new4 _) ?_
  rintro e w1 ⟨rfl, b1⟩
  have B1 : Hid (Below w.heap.size w (w1.alloc (.cells emptyA 27))) := ⟨Below.and b1 (bel_new _ _)⟩
  have N1 : Hid (NewAt (w1.alloc (.cells emptyA 27)) w1.heap.size) := ⟨NewAt.start w1⟩
  clear b1
  go_wp2_with fail
  refine Calls.mono (new5 _) ?_
  rintro e w2 ⟨rfl, b2⟩
  have B2 : Hid (Below w.heap.size w (w2.alloc (.cells emptyA 27))) := ⟨Below.and (Below.and B1.out b2) (bel_new _ _)⟩
  have N1b : Hid (NewAt (w2.alloc (.cells emptyA 27)) w1.heap.size) := ⟨(N1.out.step b2).step (bel_new _ _)⟩
  have N2 : Hid (NewAt (w2.alloc (.cells emptyA 27)) w2.heap.size) := ⟨NewAt.start w2⟩
  clear b2 B1 N1
  generalize w1.heap.size = p1 at *
  have c1 := N1b.out.cells
  have c2 := N2.out.cells
  go_wp2_with fail
  generalize w2.heap.size = p2 at *
  refine Calls.mono (eq6 _) ?_
  rintro e w3 ⟨rfl, b3⟩
  have B3 : Hid (Below w.heap.size w w3) := ⟨Below.and B2.out b3⟩
  have N1c : Hid (NewAt w3 p1) := ⟨N1b.out.step b3⟩
  have N2c : Hid (NewAt w3 p2) := ⟨N2.out.step b3⟩
  clear c1 c2 b3 N1b N2 B2
  have N1b := N1c
  have N2 := N2c
  have c1 := N1b.out.cells
  have c2 := N2.out.cells
  clear N1c N2c
  go_wp2_with fail
  refine Calls.mono (mk7 _) ?_
  rintro e w4 ⟨rfl, b4⟩
  have B4 : Hid (Below w.heap.size w w4) := ⟨Below.and B3.out b4⟩
  have N1c : Hid (NewAt w4 p1) := ⟨N1b.out.step b4⟩
  have N2c : Hid (NewAt w4 p2) := ⟨N2.out.step b4⟩
  clear c1 c2 b4 N1b N2 B3
  have N1b := N1c
  have N2 := N2c
  have c1 := N1b.out.cells
  have c2 := N2.out.cells
  clear N1c N2c
  go_wp2_with fail
  refine Calls.mono (mk8 _) ?_
  rintro e w5 ⟨rfl, b5⟩
  have B5 : Hid (Below w.heap.size w w5) := ⟨Below.and B4.out b5⟩
  have N1c : Hid (NewAt w5 p1) := ⟨N1b.out.step b5⟩
  have N2c : Hid (NewAt w5 p2) := ⟨N2.out.step b5⟩
  clear c1 c2 b5 N1b N2 B4
  have N1b := N1c
  have N2 := N2c
  have c1 := N1b.out.cells
  have c2 := N2.out.cells
  clear N1c N2c
  go_wp2_with fail
  refine Calls.mono (new5 _) ?_
  rintro e w6 ⟨rfl, b6⟩
  have B6 : Hid (Below w.heap.size w (w6.alloc (.cells emptyA 27))) := ⟨Below.and (Below.and B5.out b6) (bel_new _ _)⟩
  have N1c : Hid (NewAt (w6.alloc (.cells emptyA 27)) p1) := ⟨(N1b.out.step b6).step (bel_new _ _)⟩
  have N2c : Hid (NewAt (w6.alloc (.cells emptyA 27)) p2) := ⟨(N2.out.step b6).step (bel_new _ _)⟩
  have N3 : Hid (NewAt (w6.alloc (.cells emptyA 27)) w6.heap.size) := ⟨NewAt.start w6⟩
  clear c1 c2 b6 N1b N2 B5
  have N1b := N1c
  have N2 := N2c
  clear N1c N2c
  have c1 := N1b.out.cells
  have c3 := N3.out.cells
  go_wp2_with fail
  refine Calls.mono (eq6 _) ?_
  rintro e w7 ⟨rfl, b7⟩
  have B7 : Hid (Below w.heap.size w w7) := ⟨Below.and B6.out b7⟩
  have c2 := (N2.out.step b7).cells
  clear c1 c3 b7 N1b N2 N3 B6
  go_wp2_with fail
  refine Calls.mono (mk8 _) ?_
  rintro e w8 ⟨rfl, b8⟩
  have B8 : Hid (Below w.heap.size w w8) := ⟨Below.and B7.out b8⟩
  clear c2 b8 B7
  go_wp2
  go_ret
  exact ⟨rfl, B8.out⟩

theorem Try.own : ownKnob Try.prog.godebug = none := by kernel_rfl

set_option maxRecDepth 100000 in
theorem treeNew_lifted (os : Os) (started : os.Started) (H : Type) (enc : TypeId × Value → H) :
    ReturnsInHanded {} Try.checked os 3 .any (Rows.fnExactTreeNewSpec.pre6 enc Try.prog Try.f3 Rows.fnExactTreeNewRow.domain false) (Rows.fnExactTreeNewSpec.post enc Try.prog Try.f3 false true false false) := by
  refine returnsInHanded_of_change (C := Try.checked) Try.own started (by kernel_rfl) Try.func3
    (ChangeSpec.witness6 (enc := enc) (C := Try.checked) false ⟨#[], #[], []⟩ 8 (by kernel_rfl) (by kernel_rfl) (by kernel_rfl) (by kernel_rfl)) ?_
  intro W base args ds gs before hval0 hW _ _
  have hW' := hW
  obtain ⟨p, q, hA0, hV, rfl, _, _⟩ := hW
  have hA : DataW.TrodAll enc Try.prog W 0 (fun _ => true) true Try.f3.params.toList args.toList ds p := hA0
  rw [Try.params3] at hA
  obtain ⟨rfl, rfl, rfl⟩ := trodAll_none hA
  obtain ⟨rfl, rfl⟩ := trodVars_none hV
  clear hA0 hval0
  refine (fnExactTreeNew_any W).mono fun e W' ⟨he, bel⟩ => ?_
  subst he
  exact ⟨_, rfl, _, _, _, [], _, [], hW', trodAll_mk1 (shut_bool Try.underlying4 _), trodAll_mk0, rfl, bel.frame _, fun h => by cases h⟩

theorem fnExactTreeNew_holds : Rows.FnExactTreeNewSaid :=
  OpenClaim.holds_of_wide 3 Try.f3 rfl rfl rfl rfl rfl rfl rfl ⟨rfl, rfl, rfl, rfl, rfl⟩ rfl rfl rfl rfl rfl (by kernel_rfl) Try.func3 (by kernel_rfl)
    (of_decide_eq_true (by kernel_rfl)) (by unfold Func.isWrapper; rw [if_neg (of_decide_eq_false (by kernel_rfl))]; exact ⟨rfl, rfl⟩)
    (fun os started H enc _ => treeNew_lifted os started H enc)

end Go.Proofs.Ytobelcanfeekcaa
