/-
  Contracts of the small functions of chapter 1 on numbers and messages.
-/
import Derived.Test.YteegcblndbljlaaRows
import Derived.Test.YteegcblndbljlaaMem
namespace Go.Proofs.Yteegcblndbljlaa
open Go.RowKit

set_option maxHeartbeats 400000 in
theorem l1In_any (x lo hi : Int) (w : World) :
    Calls Try.prog 57 #[.int .i64 x, .int .i64 lo, .int .i64 hi] w fun e w' => e = .returned (.bool (inB x lo hi)) ∧ w' = w := by
  by_cases h1 : lo ≤ x
  · by_cases h2 : x ≤ hi
    · have E : Hid (inB x lo hi = true) := inB_true h1 h2
      go_enter Try.func57, Try.ntmps57
      go_wp2
      go_ret
      exact ⟨ret_bool E.out.symm, rfl⟩
    · have E : Hid (inB x lo hi = false) := inB_false2 h2
      go_enter Try.func57, Try.ntmps57
      go_wp2
      go_ret
      exact ⟨ret_bool E.out.symm, rfl⟩
  · have E : Hid (inB x lo hi = false) := inB_false1 h1
    go_enter Try.func57, Try.ntmps57
    go_wp2
    go_ret
    exact ⟨ret_bool E.out.symm, rfl⟩

set_option maxHeartbeats 400000 in
theorem l1Value_any (x : Int) (w : World) :
    Calls Try.prog 81 #[.int .i64 x] w fun e w' => e = .returned (.bool (inB x (-1000000000) 1000000000)) ∧ w' = w := by
  go_enter Try.func81, Try.ntmps81
  go_wp2_with (go_at_call 57; refine (l1In_any _ _ _ _).mono ?_; rintro e w' ⟨rfl, rfl⟩)
  go_ret
  exact ⟨rfl, rfl⟩

set_option maxHeartbeats 400000 in
theorem specMsgOk_any (o k v : Int) (w : World) :
    Calls Try.prog 75 #[.agg #[.int .i64 o, .int .i64 k, .int .i64 v]] w fun e w' => e = .returned (.bool (msgOkB o k v)) ∧ Below w.heap.size w w' := by
  go_enter Try.func75, Try.ntmps75
  go_wp2_with (first | (go_at_call 57; refine (l1In_any _ _ _ _).mono ?_; rintro e w' ⟨rfl, rfl⟩) | (go_at_call 81; refine (l1Value_any _ _).mono ?_; rintro e w' ⟨rfl, rfl⟩))
  all_goals (go_ret; refine ⟨ret_bool ?_, (Below.refl _ _).alloc (Nat.le_refl _) _⟩; simp_all [msgOkB, Bool.or_assoc])

theorem msgOk_13 {o k v : Int} (h : o = 1 ∨ o = 3) : msgOkB o k v = (inB k 0 999 && inB v (-1000000000) 1000000000) := by
  rcases h with rfl | rfl <;> simp [msgOkB, inB]
theorem msgOk_24 {o k v : Int} (h : o = 2 ∨ o = 4) : msgOkB o k v = (inB k 0 999 && (v == 0)) := by
  have ho : inB o 1 4 = true := by rcases h with rfl | rfl <;> rfl
  have h1 : (o == 1) = false := by rcases h with rfl | rfl <;> rfl
  have h3 : (o == 3) = false := by rcases h with rfl | rfl <;> rfl
  by_cases hv : v = 0
  · subst hv
    have : inB 0 (-1000000000) 1000000000 = true := by decide
    simp [msgOkB, ho, this]
  · have : (v == 0) = false := by simpa using hv
    simp [msgOkB, h1, h3, this]
theorem msgOk_no {o k v : Int} (h1 : (o == 1) = false) (h2 : (o == 2) = false) (h3 : (o == 3) = false) (h4 : (o == 4) = false) : msgOkB o k v = false := by
  have : inB o 1 4 = false := by
    simp only [beq_eq_false_iff_ne] at *
    simp only [inB, decide_eq_false_iff_not]; omega
  simp [msgOkB, this]

set_option maxHeartbeats 400000 in
theorem toMsg_any (o k v : Int) (w : World) :
    Calls Try.prog 83 #[.agg #[.int .i64 o, .int .i64 k, .int .i64 v]] w fun e w' => e = .returned (.agg #[.int .i64 o, .int .i64 k, .int .i64 v]) ∧ Below w.heap.size w w' := by
  go_enter Try.func83, Try.ntmps83
  go_wp2
  refine bodyPost_ret (v := .agg #[.int .i64 o, .int .i64 k, .int .i64 v]) (by simp [results, Try.results83, go_sem]) rfl ⟨rfl, ?_⟩
  exact (((Below.refl _ _).alloc (Nat.le_refl _) _).alloc (by simp) _).alloc (by simp; omega) _

end Go.Proofs.Yteegcblndbljlaa
