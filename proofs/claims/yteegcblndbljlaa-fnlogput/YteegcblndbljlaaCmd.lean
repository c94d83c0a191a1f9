/-
  Commands: toCmd, CmdOk of both sides, the walk of the law FnExactCmdOk.
-/
import Derived.Test.YteegcblndbljlaaMsgI
import Derived.Test.YteegcblndbljlaaFrame
namespace Go.Proofs.Yteegcblndbljlaa
open Go.RowKit

/-- what is a command that is right: nothing at all, or all within its limits -/
def cmdOkB (c s o k v : Int) : Bool := (c == 0 && s == 0 && o == 0 && k == 0 && v == 0) || (inB c 1 9 && inB s 1 100000 && msgOkB o k v)

theorem clientOk_any (x : Int) (w : World) :
    Calls Try.prog 72 #[.int .i64 x] w fun e w' => e = .returned (.bool (inB x 1 9)) ∧ w' = w := by
  by_cases h1 : 1 ≤ x
  · by_cases h2 : x ≤ 9
    · have E : Hid (inB x 1 9 = true) := inB_true h1 h2
      go_enter Try.func72, Try.ntmps72
      go_wp2
      go_ret
      exact ⟨ret_bool E.out.symm, rfl⟩
    · have E : Hid (inB x 1 9 = false) := inB_false2 h2
      go_enter Try.func72, Try.ntmps72
      go_wp2
      go_ret
      exact ⟨ret_bool E.out.symm, rfl⟩
  · have E : Hid (inB x 1 9 = false) := inB_false1 h1
    go_enter Try.func72, Try.ntmps72
    go_wp2
    go_ret
    exact ⟨ret_bool E.out.symm, rfl⟩

theorem seqOk_any (x : Int) (w : World) :
    Calls Try.prog 73 #[.int .i64 x] w fun e w' => e = .returned (.bool (inB x 1 100000)) ∧ w' = w := by
  by_cases h1 : 1 ≤ x
  · by_cases h2 : x ≤ 100000
    · have E : Hid (inB x 1 100000 = true) := inB_true h1 h2
      go_enter Try.func73, Try.ntmps73
      go_wp2
      go_ret
      exact ⟨ret_bool E.out.symm, rfl⟩
    · have E : Hid (inB x 1 100000 = false) := inB_false2 h2
      go_enter Try.func73, Try.ntmps73
      go_wp2
      go_ret
      exact ⟨ret_bool E.out.symm, rfl⟩
  · have E : Hid (inB x 1 100000 = false) := inB_false1 h1
    go_enter Try.func73, Try.ntmps73
    go_wp2
    go_ret
    exact ⟨ret_bool E.out.symm, rfl⟩

abbrev cmdV (c s o k v : Int) : Value := .agg #[.int .i64 c, .int .i64 s, .int .i64 o, .int .i64 k, .int .i64 v]

set_option maxHeartbeats 1000000 in
theorem specCmdOk_any (c s o k v : Int) (w : World) :
    Calls Try.prog 58 #[cmdV c s o k v] w fun e w' => e = .returned (.bool (cmdOkB c s o k v)) ∧ Below w.heap.size w w' := by
  by_cases h0 : c = 0
  · subst h0
    go_enter Try.func58, Try.ntmps58
    go_wp2_with fail
    all_goals (go_ret; refine ⟨ret_bool ?_, (Below.refl _ _).alloc (Nat.le_refl _) _⟩; simp_all [cmdOkB, inB])
  · have h0' : (c == 0) = false := by simpa using h0
    go_enter Try.func58, Try.ntmps58
    go_wp2_with (first | (go_at_call 57; refine (l1In_any _ _ _ _).mono ?_; rintro e w' ⟨rfl, rfl⟩) | (go_at_call 75; refine (specMsgOk_any _ _ _ _).mono ?_; rintro e w' ⟨rfl, hb⟩))
    all_goals (go_ret; refine ⟨ret_bool ?_, ?_⟩)
    all_goals first | exact (Below.refl _ _).alloc (Nat.le_refl _) _ | exact Below.and ((Below.refl _ _).alloc (Nat.le_refl _) _) hb | (simp_all [cmdOkB, inB]; done) | (simp_all [cmdOkB, inB]; intros; omega)

set_option maxHeartbeats 1000000 in
theorem implCmdOk_any (c s o k v : Int) (w : World) :
    Calls Try.prog 56 #[cmdV c s o k v] w fun e w' => e = .returned (.bool (cmdOkB c s o k v)) ∧ Below w.heap.size w w' := by
  go_enter Try.func56, Try.ntmps56
  go_wp2_with (first | (go_at_call 72; refine (clientOk_any _ _).mono ?_; rintro e w' ⟨rfl, rfl⟩) | (go_at_call 73; refine (seqOk_any _ _).mono ?_; rintro e w' ⟨rfl, rfl⟩) | (go_at_call 74; refine (implMsgOk_any _ _ _ _).mono ?_; rintro e w' ⟨rfl, hb⟩))
  all_goals (go_ret; refine ⟨ret_bool ?_, ?_⟩)
  all_goals first | exact (Below.refl _ _).alloc (Nat.le_refl _) _ | exact Below.and ((Below.refl _ _).alloc (Nat.le_refl _) _) hb | (simp_all [cmdOkB, inB]; done) | (simp_all [cmdOkB, inB]; intros; omega)

theorem five_at {W : World} {R : Nat} {t : TypeId} {x0 x1 x2 x3 x4 : Value} (a b c d e : Value) (h : W.heap[R]? = some (.cells #[x0, x1, x2, x3, x4] t (0, 0))) : (((((W.setCell ⟨R, 0, none⟩ a).setCell ⟨R, 1, none⟩ b).setCell ⟨R, 2, none⟩ c).setCell ⟨R, 3, none⟩ d).setCell ⟨R, 4, none⟩ e).heap[R]? = some (.cells #[a, b, c, d, e] t (0, 0)) := by
  have h0 := heap_setCell_same W R 0 _ _ a h
  have h1 := heap_setCell_same _ R 1 _ _ b h0
  have h2 := heap_setCell_same _ R 2 _ _ c h1
  have h3 := heap_setCell_same _ R 3 _ _ d h2
  have h4 := heap_setCell_same _ R 4 _ _ e h3
  simpa using h4
theorem late_at {W : World} {R : Nat} {t : TypeId} {x0 x1 x2 x3 x4 : Value} (c d e : Value) (h : W.heap[R]? = some (.cells #[x0, x1, x2, x3, x4] t (0, 0))) : (((W.setCell ⟨R, 2, none⟩ c).setCell ⟨R, 3, none⟩ d).setCell ⟨R, 4, none⟩ e).heap[R]? = some (.cells #[x0, x1, c, d, e] t (0, 0)) := by
  have h2 := heap_setCell_same _ R 2 _ _ c h
  have h3 := heap_setCell_same _ R 3 _ _ d h2
  have h4 := heap_setCell_same _ R 4 _ _ e h3
  simpa using h4
theorem five_chg (W : World) (R : Nat) (a b c d e : Value) : Chg (fun g => g = R) W (((((W.setCell ⟨R, 0, none⟩ a).setCell ⟨R, 1, none⟩ b).setCell ⟨R, 2, none⟩ c).setCell ⟨R, 3, none⟩ d).setCell ⟨R, 4, none⟩ e) :=
  (((((Chg.refl (fun g => g = R) W).setAt R 0 rfl a).setAt R 1 rfl b).setAt R 2 rfl c).setAt R 3 rfl d).setAt R 4 rfl e
theorem late_chg (W : World) (R : Nat) (c d e : Value) : Chg (fun g => g = R) W (((W.setCell ⟨R, 2, none⟩ c).setCell ⟨R, 3, none⟩ d).setCell ⟨R, 4, none⟩ e) :=
  (((Chg.refl (fun g => g = R) W).setAt R 2 rfl c).setAt R 3 rfl d).setAt R 4 rfl e

set_option maxHeartbeats 1000000 in
theorem toCmd_any (c s o k v : Int) (w : World) :
    Calls Try.prog 77 #[cmdV c s o k v] w fun e w' => e = .returned (cmdV c s o k v) ∧ Below w.heap.size w w' := by
  have b0 : Below w.heap.size w (((w.alloc (.cells #[.int .i64 c, .int .i64 s, .int .i64 o, .int .i64 k, .int .i64 v] 83)).alloc (.cells #[.int .i64 0, .int .i64 0, .int .i64 0, .int .i64 0, .int .i64 0] 37)).alloc (.cells #[.int .i64 c, .int .i64 s, .int .i64 0, .int .i64 0, .int .i64 0] 37)) := (((Below.refl _ _).alloc (Nat.le_refl _) _).alloc (by simp) _).alloc (by simp; omega) _
  have n2 := heap_alloc_new ((w.alloc (.cells #[.int .i64 c, .int .i64 s, .int .i64 o, .int .i64 k, .int .i64 v] 83)).alloc (.cells #[.int .i64 0, .int .i64 0, .int .i64 0, .int .i64 0, .int .i64 0] 37)) (.cells #[.int .i64 c, .int .i64 s, .int .i64 0, .int .i64 0, .int .i64 0] 37)
  have n1 := row_chg (F := fun _ => False) (heap_alloc_new (w.alloc (.cells #[.int .i64 c, .int .i64 s, .int .i64 o, .int .i64 k, .int .i64 v] 83)) (.cells #[.int .i64 0, .int .i64 0, .int .i64 0, .int .i64 0, .int .i64 0] 37)) ((Chg.refl _ _).alloc (.cells #[.int .i64 c, .int .i64 s, .int .i64 0, .int .i64 0, .int .i64 0] 37)) id
  simp only [World.size_alloc] at n1 n2
  have H : Hid _ := And.intro b0 (And.intro n1 n2)
  clear b0 n1 n2
  go_enter Try.func77, Try.ntmps77
  go_wp2_with fail
  generalize (((w.alloc (.cells #[.int .i64 c, .int .i64 s, .int .i64 o, .int .i64 k, .int .i64 v] 83)).alloc (.cells #[.int .i64 0, .int .i64 0, .int .i64 0, .int .i64 0, .int .i64 0] 37)).alloc (.cells #[.int .i64 c, .int .i64 s, .int .i64 0, .int .i64 0, .int .i64 0] 37)) = W at *
  refine (toMsg_any _ _ _ _).mono ?_
  rintro e w1 ⟨rfl, hb⟩
  obtain ⟨b0, n1, n2⟩ := H.out
  have m1 := (hb.block _ (Array.getElem?_eq_some_iff.1 n1).1).trans n1
  have m2 := (hb.block _ (Array.getElem?_eq_some_iff.1 n2).1).trans n2
  have B1 := Below.and b0 hb
  have m3 := late_at (.int .i64 o) (.int .i64 k) (.int .i64 v) m2
  have g3 := late_chg w1 (w.heap.size + 1 + 1) (.int .i64 o) (.int .i64 k) (.int .i64 v)
  have m4 := row_chg m1 g3 (by omega)
  have m5 := five_at (.int .i64 c) (.int .i64 s) (.int .i64 o) (.int .i64 k) (.int .i64 v) m4
  have g5 := five_chg (((w1.setCell ⟨w.heap.size + 1 + 1, 2, none⟩ (.int .i64 o)).setCell ⟨w.heap.size + 1 + 1, 3, none⟩ (.int .i64 k)).setCell ⟨w.heap.size + 1 + 1, 4, none⟩ (.int .i64 v)) (w.heap.size + 1) (.int .i64 c) (.int .i64 s) (.int .i64 o) (.int .i64 k) (.int .i64 v)
  have B2 := B1.trans (g3.below (fun g _ hg => by omega) B1.size)
  have B3 : Hid _ := B2.trans (g5.below (fun g _ hg => by omega) B2.size)
  have f1 : ∀ j, w1.frozen? ⟨w.heap.size + 1 + 1, j, none⟩ = false := fun j => frozen_of_cells m2
  have f2 : ∀ j, (((w1.setCell ⟨w.heap.size + 1 + 1, 2, none⟩ (.int .i64 o)).setCell ⟨w.heap.size + 1 + 1, 3, none⟩ (.int .i64 k)).setCell ⟨w.heap.size + 1 + 1, 4, none⟩ (.int .i64 v)).frozen? ⟨w.heap.size + 1, j, none⟩ = false := fun j => frozen_of_cells m4
  have c2 : ∀ j, w1.cell? ⟨w.heap.size + 1 + 1, j, none⟩ = (#[.int .i64 c, .int .i64 s, .int .i64 0, .int .i64 0, .int .i64 0] : Array Value)[j]? := fun j => cell_of_cells m2
  have c3 : ∀ j, (((w1.setCell ⟨w.heap.size + 1 + 1, 2, none⟩ (.int .i64 o)).setCell ⟨w.heap.size + 1 + 1, 3, none⟩ (.int .i64 k)).setCell ⟨w.heap.size + 1 + 1, 4, none⟩ (.int .i64 v)).cell? ⟨w.heap.size + 1 + 1, j, none⟩ = (#[.int .i64 c, .int .i64 s, .int .i64 o, .int .i64 k, .int .i64 v] : Array Value)[j]? := fun j => cell_of_cells m3
  have c4 : ∀ j, (((w1.setCell ⟨w.heap.size + 1 + 1, 2, none⟩ (.int .i64 o)).setCell ⟨w.heap.size + 1 + 1, 3, none⟩ (.int .i64 k)).setCell ⟨w.heap.size + 1 + 1, 4, none⟩ (.int .i64 v)).cell? ⟨w.heap.size + 1, j, none⟩ = (#[.int .i64 0, .int .i64 0, .int .i64 0, .int .i64 0, .int .i64 0] : Array Value)[j]? := fun j => cell_of_cells m4
  have c5 : Hid _ := m5
  clear m1 m2 m3 m4 m5 g3 g5 B1 B2 n1 n2 b0 hb H
  go_wp2_with fail
  simp [bodyPost, results, Try.results77, go_sem, cell_of_cells c5.out]
  exact B3.out

end Go.Proofs.Yteegcblndbljlaa
