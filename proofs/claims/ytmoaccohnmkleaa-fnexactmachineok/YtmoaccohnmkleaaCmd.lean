/-
  Commands: toCmd, CmdOk of both sides, the walk of the law FnExactCmdOk.
-/
import Derived.Test.YtmoaccohnmkleaaMsgI
import Derived.Test.YtmoaccohnmkleaaFrame
namespace Go.Proofs.Ytmoaccohnmkleaa
open Go.RowKit

/-- what is a command that is right: nothing at all, or all within its limits -/
def cmdOkB (c s o k v : Int) : Bool := (c == 0 && s == 0 && o == 0 && k == 0 && v == 0) || (inB c 1 9 && inB s 1 100000 && msgOkB o k v)

theorem clientOk_any (x : Int) (w : World) :
    Calls Try.prog 31 #[.int .i64 x] w fun e w' => e = .returned (.bool (inB x 1 9)) ∧ w' = w := by
  by_cases h1 : 1 ≤ x
  · by_cases h2 : x ≤ 9
    · have E : Hid (inB x 1 9 = true) := inB_true h1 h2
      go_enter Try.func31, Try.ntmps31
      go_wp2
      go_ret
      exact ⟨ret_bool E.out.symm, rfl⟩
    · have E : Hid (inB x 1 9 = false) := inB_false2 h2
      go_enter Try.func31, Try.ntmps31
      go_wp2
      go_ret
      exact ⟨ret_bool E.out.symm, rfl⟩
  · have E : Hid (inB x 1 9 = false) := inB_false1 h1
    go_enter Try.func31, Try.ntmps31
    go_wp2
    go_ret
    exact ⟨ret_bool E.out.symm, rfl⟩

theorem seqOk_any (x : Int) (w : World) :
    Calls Try.prog 32 #[.int .i64 x] w fun e w' => e = .returned (.bool (inB x 1 100000)) ∧ w' = w := by
  by_cases h1 : 1 ≤ x
  · by_cases h2 : x ≤ 100000
    · have E : Hid (inB x 1 100000 = true) := inB_true h1 h2
      go_enter Try.func32, Try.ntmps32
      go_wp2
      go_ret
      exact ⟨ret_bool E.out.symm, rfl⟩
    · have E : Hid (inB x 1 100000 = false) := inB_false2 h2
      go_enter Try.func32, Try.ntmps32
      go_wp2
      go_ret
      exact ⟨ret_bool E.out.symm, rfl⟩
  · have E : Hid (inB x 1 100000 = false) := inB_false1 h1
    go_enter Try.func32, Try.ntmps32
    go_wp2
    go_ret
    exact ⟨ret_bool E.out.symm, rfl⟩

abbrev cmdV (c s o k v : Int) : Value := .agg #[.int .i64 c, .int .i64 s, .int .i64 o, .int .i64 k, .int .i64 v]

theorem five_at {W : World} {R : Nat} {t : TypeId} {x0 x1 x2 x3 x4 : Value} (a b c d e : Value) (h : W.heap[R]? = some (.cells #[x0, x1, x2, x3, x4] t (0, 0))) : (((((W.setCell ⟨R, 0, none⟩ a).setCell ⟨R, 1, none⟩ b).setCell ⟨R, 2, none⟩ c).setCell ⟨R, 3, none⟩ d).setCell ⟨R, 4, none⟩ e).heap[R]? = some (.cells #[a, b, c, d, e] t (0, 0)) := by
  have h0 := heap_setCell_same W R 0 _ _ a h
  have h1 := heap_setCell_same _ R 1 _ _ b h0
  have h2 := heap_setCell_same _ R 2 _ _ c h1
  have h3 := heap_setCell_same _ R 3 _ _ d h2
  have h4 := heap_setCell_same _ R 4 _ _ e h3
  simpa using h4
theorem late_at {W : World} {R : Nat} {t : TypeId} {x0 x1 x2 x3 x4 : Value} (c d e : Value) (h : W.heap[R]? = some (.cells #[x0, x1, x2, x3, x4] t (0, 0))) : (((W.setCell ⟨R, 2, none⟩ c).setCell ⟨R, 3, none⟩ d).setCell ⟨R, 4, none⟩ e).heap[R]? = some (.cells #[x0, x1, c, d, e] t (0, 0)) := by
  have h2 := heap_setCell_same _ R 2 _ _ c h
  have h3 := heap_setCell_same _ R 3 _ _ d h2
  have h4 := heap_setCell_same _ R 4 _ _ e h3
  simpa using h4
theorem five_chg (W : World) (R : Nat) (a b c d e : Value) : Chg (fun g => g = R) W (((((W.setCell ⟨R, 0, none⟩ a).setCell ⟨R, 1, none⟩ b).setCell ⟨R, 2, none⟩ c).setCell ⟨R, 3, none⟩ d).setCell ⟨R, 4, none⟩ e) :=
  (((((Chg.refl (fun g => g = R) W).setAt R 0 rfl a).setAt R 1 rfl b).setAt R 2 rfl c).setAt R 3 rfl d).setAt R 4 rfl e
theorem late_chg (W : World) (R : Nat) (c d e : Value) : Chg (fun g => g = R) W (((W.setCell ⟨R, 2, none⟩ c).setCell ⟨R, 3, none⟩ d).setCell ⟨R, 4, none⟩ e) :=
  (((Chg.refl (fun g => g = R) W).setAt R 2 rfl c).setAt R 3 rfl d).setAt R 4 rfl e

end Go.Proofs.Ytmoaccohnmkleaa
