/-
  Contracts of the model's small functions on maps: clamp, without, put.
-/
import Derived.Test.YteegcblndbljlaaAppend
import Derived.Test.YteegcblndbljlaaPairs
import Derived.Test.YteegcblndbljlaaMathPut
namespace Go.Proofs.Yteegcblndbljlaa
open Go.RowKit

set_option maxHeartbeats 400000 in
theorem l1Max_any (a b : Int) (w : World) : Calls Try.prog 49 #[.int .i64 a, .int .i64 b] w fun e w' => e = .returned (.int .i64 (max a b)) ∧ w' = w := by
  by_cases h : b < a
  · have E : Hid (max a b = a) := Int.max_eq_left (by omega)
    go_enter Try.func49, Try.ntmps49
    go_wp2
    go_ret
    exact ⟨ret_int E.out.symm, rfl⟩
  · have E : Hid (max a b = b) := Int.max_eq_right (by omega)
    go_enter Try.func49, Try.ntmps49
    go_wp2
    go_ret
    exact ⟨ret_int E.out.symm, rfl⟩
theorem clamp_eq (x : Int) : max (min x 1000000000) (-1000000000) = clampI x := by
  unfold clampI; split <;> (try split) <;> omega
theorem stp_cases {k v : Int} {s : PL × Bool} {p : Int × Int} : 
    (s.2 = false → k < p.1 → stp k v s p = (s.1 ++ [(k, v)] ++ [p], true)) ∧ (s.2 = false → p.1 = k → stp k v s p = (s.1 ++ [(k, v)], true)) ∧ (s.2 = false → p.1 < k → stp k v s p = (s.1 ++ [p], false)) ∧
    (s.2 = true → p.1 ≠ k → stp k v s p = (s.1 ++ [p], true)) ∧ (s.2 = true → p.1 = k → stp k v s p = (s.1, true)) := by
  obtain ⟨a, b⟩ := s
  refine ⟨fun h1 h2 => ?_, fun h1 h2 => ?_, fun h1 h2 => ?_, fun h1 h2 => ?_, fun h1 h2 => ?_⟩ <;> simp only at h1 <;> subst h1
  · simp [stp, show k ≤ p.1 by omega, show ¬ p.1 = k by omega]
  · simp [stp, h2]
  · simp [stp, show ¬ k ≤ p.1 by omega, show ¬ p.1 = k by omega]
  · simp [stp, h2]
  · simp [stp, h2]

end Go.Proofs.Yteegcblndbljlaa
