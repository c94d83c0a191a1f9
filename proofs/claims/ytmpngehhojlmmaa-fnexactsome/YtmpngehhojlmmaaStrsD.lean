/-
  Lists of strings: the marks looked for.
-/
import Derived.Test.YtmpngehhojlmmaaStrsC
import Derived.Deep.RegionWith
namespace Go.Proofs.Ytmpngehhojlmmaa
open Go.RowKit

set_option maxHeartbeats 1000000 in
theorem heldStringS_any (v : Value) (n : Nat) (k : Int) (w : World) (h : Row w v n (flatS (marksS k n))) (hn : n ≤ 2097152) (hk0 : 0 < k) (hk1 : k ≤ 4194304) :
    Calls Try.prog 46 #[v, .int .i64 k] w fun e w' => e = .returned (.int .i64 (k + n)) ∧ Below w.heap.size w w' := by
  have h' : Row w v (marksS k n).length (flatS (marksS k n)) := by rw [marksS_length]; exact h
  obtain ⟨a, b, off, cap, rfl, hcap, hmax, ha, hk⟩ := h'.strs
  rw [marksS_length] at *
  unfold maxLen at hmax
  clear h h'
  go_enter Try.func46, Try.ntmps46
  go_wp2
  go_loopw [1, 5] (fun kk i wr => ∃ j : Nat, j ≤ n ∧ i = .int .i64 j ∧ kk = .int .i64 (k + j) ∧ Below w.heap.size w wr) (fun _ i _ => n - (intOf i).toNat)
  case atStart => exact ⟨0, Nat.zero_le _, rfl, by simp, Below.refl _ _⟩
  case round =>
    obtain ⟨j, hj, rfl, rfl, hb⟩ := hrel
    by_cases hlt : j < n
    · have hal := ha (by omega)
      subst hal
      have c0 : w.cell? ⟨b, off + j, none⟩ = some (.string (markT (k + j))) := by rw [hk j hlt, marksS_at k n j hlt]
      have d0 : wr.cell? ⟨b, off + j, none⟩ = some (.string (markT (k + j))) := (hb.cell (by exact cell_lt c0)).trans c0
      have CB : Hid (b < wr.heap.size) := cell_lt d0
      have D0 : Hid (∀ w1, Below wr.heap.size wr w1 → w1.cell? ⟨b, off + j, none⟩ = some (.string (markT (k + j)))) := fun w1 h1 => (h1.cell (by exact cell_lt d0)).trans d0
      clear hk c0
      have hb0 : 0 ≤ k + (j : Int) := by omega
      have hb1 : k + (j : Int) ≤ 8000000 := by omega
      have hbp : 0 < k + (j : Int) := by omega
      have MT : Hid (∀ W, Calls Try.prog 45 #[.int .i64 (k + j)] W fun e w' => e = .returned (.string (markT (k + j))) ∧ Below W.heap.size W w') := fun W => mark_text (k + j) hbp hb1 W
      have hq' : ((markT (k + j)).toList == (markT (k + j)).toList) = true := by simp
      generalize markT (k + j) = s at *
      go_wp2_with fail
      go_region_with (go_at_call 45; refine (MT.out _).mono ?_; rintro e w1 ⟨rfl, b1⟩; have b2 := Below.and (Below.refl _ wr).drew b1; have d1 := D0.out _ b2)
      all_goals
        go_wp2
        go_roundw
        case rel => exact ⟨j + 1, by omega, by go_num, by go_num, hb.trans (b2.mono hb.size)⟩
        case measure => simp [intOf]; omega
    · have hjl : j = n := by omega
      subst hjl
      go_wp2
      go_ret
      exact ⟨rfl, hb⟩

end Go.Proofs.Ytmpngehhojlmmaa
