/-
  The laws' own big.
-/
import Derived.Test.YteegcblndbljlaaDrawB
namespace Go.Proofs.Yteegcblndbljlaa
open Go.RowKit

set_option maxHeartbeats 400000 in
theorem big_any (a : Option Addr) (n cap : Nat) (hn : n ≤ maxLen) (w : World) :
    Calls Try.prog 13 #[.slice a n cap] w fun e w' => e = .returned (.bool (decide (n > 1048576))) ∧ w' = w := by
  unfold maxLen at hn
  by_cases h : n > 1048576
  · have hd : decide ((n : Int) > 1048576) = true := decide_eq_true (by omega)
    go_enter Try.func13, Try.ntmps13
    go_wp2
    go_ret
    exact ⟨ret_bool (by simp [h]; try omega), rfl⟩
  · go_enter Try.func13, Try.ntmps13
    go_wp2
    go_ret
    exact ⟨ret_bool (by simp [h]; try omega), rfl⟩

end Go.Proofs.Yteegcblndbljlaa
