/-
  The program's MsgOk.
-/
import Derived.Test.YteegcblndbljlaaMsg
namespace Go.Proofs.Yteegcblndbljlaa
open Go.RowKit

set_option maxHeartbeats 400000 in
theorem keyOk_any (x : Int) (w : World) :
    Calls Try.prog 79 #[.int .i64 x] w fun e w' => e = .returned (.bool (inB x 0 999)) ∧ w' = w := by
  by_cases h1 : 0 ≤ x
  · by_cases h2 : x ≤ 999
    · have E : Hid (inB x 0 999 = true) := inB_true h1 h2
      go_enter Try.func79, Try.ntmps79
      go_wp2
      go_ret
      exact ⟨ret_bool E.out.symm, rfl⟩
    · have E : Hid (inB x 0 999 = false) := inB_false2 h2
      go_enter Try.func79, Try.ntmps79
      go_wp2
      go_ret
      exact ⟨ret_bool E.out.symm, rfl⟩
  · have E : Hid (inB x 0 999 = false) := inB_false1 h1
    go_enter Try.func79, Try.ntmps79
    go_wp2
    go_ret
    exact ⟨ret_bool E.out.symm, rfl⟩

set_option maxHeartbeats 400000 in
theorem valueOk_any (x : Int) (w : World) :
    Calls Try.prog 80 #[.int .i64 x] w fun e w' => e = .returned (.bool (inB x (-1000000000) 1000000000)) ∧ w' = w := by
  by_cases h1 : -1000000000 ≤ x
  · by_cases h2 : x ≤ 1000000000
    · have E : Hid (inB x (-1000000000) 1000000000 = true) := inB_true h1 h2
      go_enter Try.func80, Try.ntmps80
      go_wp2
      go_ret
      exact ⟨ret_bool E.out.symm, rfl⟩
    · have E : Hid (inB x (-1000000000) 1000000000 = false) := inB_false2 h2
      go_enter Try.func80, Try.ntmps80
      go_wp2
      go_ret
      exact ⟨ret_bool E.out.symm, rfl⟩
  · have E : Hid (inB x (-1000000000) 1000000000 = false) := inB_false1 h1
    go_enter Try.func80, Try.ntmps80
    go_wp2
    go_ret
    exact ⟨ret_bool E.out.symm, rfl⟩

set_option maxHeartbeats 400000 in
theorem implMsgOk_any (o k v : Int) (w : World) :
    Calls Try.prog 74 #[.agg #[.int .i64 o, .int .i64 k, .int .i64 v]] w fun e w' => e = .returned (.bool (msgOkB o k v)) ∧ Below w.heap.size w w' := by
  rcases (show (o == 1) = true ∨ ((o == 1) = false ∧ (o == 3) = true) ∨ ((o == 1) = false ∧ (o == 3) = false ∧ (o == 2) = true) ∨ ((o == 1) = false ∧ (o == 3) = false ∧ (o == 2) = false ∧ (o == 4) = true) ∨ ((o == 1) = false ∧ (o == 3) = false ∧ (o == 2) = false ∧ (o == 4) = false) from by
    cases (o == 1) <;> cases (o == 2) <;> cases (o == 3) <;> cases (o == 4) <;> simp) with h | ⟨h1, h⟩ | ⟨h1, h3, h⟩ | ⟨h1, h3, h2, h⟩ | ⟨h1, h3, h2, h⟩
  · have E : Hid (msgOkB o k v = (inB k 0 999 && inB v (-1000000000) 1000000000)) := msgOk_13 (Or.inl (by simpa using h))
    go_enter Try.func74, Try.ntmps74
    go_wp2_with (first | (go_at_call 79; refine (keyOk_any _ _).mono ?_; rintro e w' ⟨rfl, rfl⟩) | (go_at_call 80; refine (valueOk_any _ _).mono ?_; rintro e w' ⟨rfl, rfl⟩))
    all_goals (go_ret; refine ⟨ret_bool ?_, (Below.refl _ _).alloc (Nat.le_refl _) _⟩; rw [E.out]; simp [*])
  · have E : Hid (msgOkB o k v = (inB k 0 999 && inB v (-1000000000) 1000000000)) := msgOk_13 (Or.inr (by simpa using h))
    go_enter Try.func74, Try.ntmps74
    go_wp2_with (first | (go_at_call 79; refine (keyOk_any _ _).mono ?_; rintro e w' ⟨rfl, rfl⟩) | (go_at_call 80; refine (valueOk_any _ _).mono ?_; rintro e w' ⟨rfl, rfl⟩))
    all_goals (go_ret; refine ⟨ret_bool ?_, (Below.refl _ _).alloc (Nat.le_refl _) _⟩; rw [E.out]; simp [*])
  · have E : Hid (msgOkB o k v = (inB k 0 999 && (v == 0))) := msgOk_24 (Or.inl (by simpa using h))
    go_enter Try.func74, Try.ntmps74
    go_wp2_with (first | (go_at_call 79; refine (keyOk_any _ _).mono ?_; rintro e w' ⟨rfl, rfl⟩) | (go_at_call 80; refine (valueOk_any _ _).mono ?_; rintro e w' ⟨rfl, rfl⟩))
    all_goals (go_ret; refine ⟨ret_bool ?_, (Below.refl _ _).alloc (Nat.le_refl _) _⟩; rw [E.out]; simp [*])
  · have E : Hid (msgOkB o k v = (inB k 0 999 && (v == 0))) := msgOk_24 (Or.inr (by simpa using h))
    go_enter Try.func74, Try.ntmps74
    go_wp2_with (first | (go_at_call 79; refine (keyOk_any _ _).mono ?_; rintro e w' ⟨rfl, rfl⟩) | (go_at_call 80; refine (valueOk_any _ _).mono ?_; rintro e w' ⟨rfl, rfl⟩))
    all_goals (go_ret; refine ⟨ret_bool ?_, (Below.refl _ _).alloc (Nat.le_refl _) _⟩; rw [E.out]; simp [*])
  · have E : Hid (msgOkB o k v = false) := msgOk_no h1 h2 h3 h
    go_enter Try.func74, Try.ntmps74
    go_wp2
    go_ret
    exact ⟨ret_bool E.out.symm, (Below.refl _ _).alloc (Nat.le_refl _) _⟩

end Go.Proofs.Yteegcblndbljlaa
