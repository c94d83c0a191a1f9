/-
  Contracts of the program's chapter 2: kindOf, tooDeep, has, splits, rootOf, kid.
-/
import Derived.Test.YtmoaccohnmkleaaKindOf
import Derived.Test.YtmoaccohnmkleaaTreeSpecC
import Derived.Test.YtmoaccohnmkleaaTreeToB
namespace Go.Proofs.Ytmoaccohnmkleaa
open Go.RowKit

set_option maxHeartbeats 400000 in
theorem tooDeep_any (kd lo hi ab : Int) (w : World) :
    Calls Try.prog 49 #[placeV kd lo hi ab] w fun e w' => e = .returned (.bool (decide (7 ≤ ab))) ∧ Below w.heap.size w w' := by
  go_enter Try.func49, Try.ntmps49
  go_wp2
  go_ret
  exact ⟨rfl, bel_new _ _⟩

set_option maxHeartbeats 400000 in
theorem has_any (kd lo hi ab k : Int) (w : World) :
    Calls Try.prog 56 #[placeV kd lo hi ab, .int .i64 k] w fun e w' => e = .returned (.bool (inB k lo (hi - 1))) ∧ Below w.heap.size w w' := by
  by_cases h1 : lo ≤ k
  · by_cases h2 : k < hi
    · have E : Hid (inB k lo (hi - 1) = true) := inB_true h1 (by omega)
      go_enter Try.func56, Try.ntmps56
      go_wp2
      go_ret
      exact ⟨ret_bool E.out.symm, bel_new _ _⟩
    · have E : Hid (inB k lo (hi - 1) = false) := inB_false2 (by omega)
      go_enter Try.func56, Try.ntmps56
      go_wp2
      go_ret
      exact ⟨ret_bool E.out.symm, bel_new _ _⟩
  · have E : Hid (inB k lo (hi - 1) = false) := inB_false1 h1
    go_enter Try.func56, Try.ntmps56
    go_wp2
    go_ret
    exact ⟨ret_bool E.out.symm, bel_new _ _⟩

set_option maxHeartbeats 400000 in
theorem splits_any (kd lo hi ab k : Int) (w : World) :
    Calls Try.prog 57 #[placeV kd lo hi ab, .int .i64 k] w fun e w' => e = .returned (.bool (inB k (lo + 1) (hi - 1))) ∧ Below w.heap.size w w' := by
  by_cases h1 : lo < k
  · by_cases h2 : k < hi
    · have E : Hid (inB k (lo + 1) (hi - 1) = true) := inB_true (by omega) (by omega)
      go_enter Try.func57, Try.ntmps57
      go_wp2
      go_ret
      exact ⟨ret_bool E.out.symm, bel_new _ _⟩
    · have E : Hid (inB k (lo + 1) (hi - 1) = false) := inB_false2 (by omega)
      go_enter Try.func57, Try.ntmps57
      go_wp2
      go_ret
      exact ⟨ret_bool E.out.symm, bel_new _ _⟩
  · have E : Hid (inB k (lo + 1) (hi - 1) = false) := inB_false1 (by omega)
    go_enter Try.func57, Try.ntmps57
    go_wp2
    go_ret
    exact ⟨ret_bool E.out.symm, bel_new _ _⟩

end Go.Proofs.Ytmoaccohnmkleaa
