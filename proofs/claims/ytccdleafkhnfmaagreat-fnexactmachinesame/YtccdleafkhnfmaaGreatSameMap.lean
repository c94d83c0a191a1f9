/-
  The model's l4SameMap: two maps are the same.
-/
import Derived.Test.YtccdleafkhnfmaaGreatEqual
namespace Go.Proofs.YtccdleafkhnfmaaGreat
open Go.RowKit

set_option maxHeartbeats 2000000 in
theorem sameMap_any (v1 v2 : Value) (l1 l2 : PL) (w : World) (h1 : Row w v1 l1.length (flatP l1)) (h2 : Row w v2 l2.length (flatP l2)) :
    Calls Tryz.prog 11 #[v1, v2] w fun e w' => e = .returned (.bool (decide (l1 = l2))) ∧ Below w.heap.size w w' := by
  obtain ⟨a, b, off, cap, rfl, hcap, hmax, ha, hx0, hx1⟩ := h1.pairs
  obtain ⟨a2, b2, off2, cap2, rfl, hcap2, hmax2, ha2, hy0, hy1⟩ := h2.pairs
  unfold maxLen at hmax hmax2
  go_enter Tryz.func11, Tryz.ntmps11
  go_wp2
  go_loopw [5] (fun i wr => ∃ k : Nat, k ≤ l1.length ∧ k ≤ l2.length ∧ i = .int .i64 k ∧ (∀ i, i < k → kOf l1 i = kOf l2 i ∧ vOf l1 i = vOf l2 i) ∧ Below w.heap.size w wr)
    (fun i _ => l1.length - (intOf i).toNat)
  case atStart => exact ⟨0, Nat.zero_le _, Nat.zero_le _, rfl, fun i hi => absurd hi (Nat.not_lt_zero _), Below.refl _ _⟩
  case round =>
    obtain ⟨k, hkl, hkl2, rfl, hall, hb⟩ := hrel
    have ALL : Hid (∀ i, i < k → kOf l1 i = kOf l2 i ∧ vOf l1 i = vOf l2 i) := hall
    clear hall
    by_cases hlt : k < l1.length
    · by_cases hlt2 : k < l2.length
      · have hal := ha (by omega)
        subst hal
        have hal2 := ha2 (by omega)
        subst hal2
        have d0 := (hb.cell (by exact cell_lt (hx0 k hlt))).trans (hx0 k hlt)
        have d1 := (hb.cell (by exact cell_lt (hx1 k hlt))).trans (hx1 k hlt)
        have e0 := (hb.cell (by exact cell_lt (hy0 k hlt2))).trans (hy0 k hlt2)
        have e1 := (hb.cell (by exact cell_lt (hy1 k hlt2))).trans (hy1 k hlt2)
        have hg := Tryz.guardP
        have hq := Tryz.neqP (kOf l1 k) (vOf l1 k) (kOf l2 k) (vOf l2 k)
        clear ha ha2 hx0 hx1 hy0 hy1
        by_cases he : kOf l1 k = kOf l2 k ∧ vOf l1 k = vOf l2 k
        · rw [decide_eq_true he, Bool.not_true] at hq
          have EQ : Hid _ := he
          clear he
          go_wp2
          go_quiet (fail)
          go_wp2
          go_roundw
          case rel => exact ⟨k + 1, by omega, by omega, by go_num, fun i hi => if h : i < k then ALL.out i h else by rw [show i = k by omega]; exact EQ.out, below_drewN hb _⟩
          case measure => simp [intOf]; omega
        · rw [decide_eq_false he, Bool.not_false] at hq
          have NE : Hid (decide (l1 = l2) = false) := decide_eq_false (fun e => he (by subst e; exact ⟨rfl, rfl⟩))
          clear he
          go_wp2
          go_quiet (fail)
          go_wp2
          go_ret
          exact ⟨ret_bool NE.out.symm, below_drewN hb _⟩
      · have NE : Hid (decide (l1 = l2) = false) := decide_eq_false (fun e => by subst e; omega)
        have hne : ((l1.length : Int) == (l2.length : Int)) = false := by rw [beq_eq_false_iff_ne]; omega
        go_wp2
        go_ret
        exact ⟨ret_bool NE.out.symm, hb⟩
    · by_cases hl : l1.length = l2.length
      · have YE : Hid (decide (l1 = l2) = true) := decide_eq_true (pl_ext hl (fun i hi => ALL.out i (by omega)))
        have hne : ((l1.length : Int) == (l2.length : Int)) = true := by rw [beq_iff_eq]; omega
        clear hl
        go_wp2
        go_ret
        exact ⟨ret_bool YE.out.symm, hb⟩
      · have NE : Hid (decide (l1 = l2) = false) := decide_eq_false (fun e => hl (by rw [e]))
        have hne : ((l1.length : Int) == (l2.length : Int)) = false := by rw [beq_eq_false_iff_ne]; omega
        go_wp2
        go_ret
        exact ⟨ret_bool NE.out.symm, hb⟩

end Go.Proofs.YtccdleafkhnfmaaGreat
