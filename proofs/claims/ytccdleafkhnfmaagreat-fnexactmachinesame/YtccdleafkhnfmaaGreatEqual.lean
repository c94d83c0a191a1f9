/-
  slices.Equal of two lists: pairs, and what was done; the model's l4SameMap.
-/
import Derived.Test.YtccdleafkhnfmaaGreatDones
import Derived.Laws.StructEq
import Derived.BigQuiet
import Derived.Deep.QuietTactic
namespace Go.Proofs.YtccdleafkhnfmaaGreat
open Go.RowKit

theorem Tryz.neqD (a b c : Int) (x : Bool) (d e f : Int) (y : Bool) (w : World) : (binOp .neq 48 (.agg #[.int .i64 a, .int .i64 b, .int .i64 c, .bool x]) (.agg #[.int .i64 d, .int .i64 e, .int .i64 f, .bool y])).run Tryz.prog w = .ok (.bool (!(decide (a = d ∧ b = e ∧ c = f ∧ x = y)))) w := by
  have u3 := Tryz.underlying3
  have a3 := Tryz.isAgg3
  have z3 := Tryz.sizeOf3
  have u4 := Tryz.underlying4
  have a4 := Tryz.isAgg4
  have z4 := Tryz.sizeOf4
  have hS : Tryz.prog.underlying 48 = some (.struct (Tryz.prog.fieldsOf 48)) := by kernel_rfl
  have hp : Tryz.prog.stoodInHeld 48 = false := by kernel_rfl
  rw [run_neq_struct, show (10000 : Nat) = 9999 + 1 from rfl, run_equalIn_agg w 9999 48 _ _ hS hp]
  simp only [Program.fieldsOf, Tryz.underlying48]
  go_simp
  by_cases h1 : a = d <;> by_cases h2 : b = e <;> by_cases h3 : c = f <;> cases x <;> cases y <;> simp [h1, h2, h3]
theorem Tryz.guardD : Tryz.prog.eqGuardType Tryz.prog.depth 48 = false := by kernel_rfl
theorem Tryz.neqP (a b c d : Int) (w : World) : (binOp .neq 53 (.agg #[.int .i64 a, .int .i64 b]) (.agg #[.int .i64 c, .int .i64 d])).run Tryz.prog w = .ok (.bool (!(decide (a = c ∧ b = d)))) w := by
  have u3 := Tryz.underlying3
  have a3 := Tryz.isAgg3
  have z3 := Tryz.sizeOf3
  have hS : Tryz.prog.underlying 53 = some (.struct (Tryz.prog.fieldsOf 53)) := by kernel_rfl
  have hp : Tryz.prog.stoodInHeld 53 = false := by kernel_rfl
  rw [run_neq_struct, show (10000 : Nat) = 9999 + 1 from rfl, run_equalIn_agg w 9999 53 _ _ hS hp]
  simp only [Program.fieldsOf, Tryz.underlying53]
  go_simp
  by_cases h1 : a = c <;> by_cases h2 : b = d <;> simp [h1, h2]
theorem Tryz.guardP : Tryz.prog.eqGuardType Tryz.prog.depth 53 = false := by kernel_rfl

theorem pl_ext {l1 l2 : PL} (hl : l1.length = l2.length) (h : ∀ i, i < l1.length → kOf l1 i = kOf l2 i ∧ vOf l1 i = vOf l2 i) : l1 = l2 := by
  apply List.ext_getElem hl
  intro i h1 h2
  have := h i h1
  simp only [kOf, vOf, List.getD, List.getElem?_eq_getElem h1, List.getElem?_eq_getElem h2, Option.getD_some] at this
  exact Prod.ext this.1 this.2

set_option maxHeartbeats 2000000 in
theorem equalD_any (v1 v2 : Value) (l1 l2 : DL) (w : World) (h1 : Row w v1 l1.length (flatD l1)) (h2 : Row w v2 l2.length (flatD l2)) :
    Calls Tryz.prog 15 #[v1, v2] w fun e w' => e = .returned (.bool (decide (l1 = l2))) ∧ Below w.heap.size w w' := by
  obtain ⟨a, b, off, cap, rfl, hcap, hmax, ha, hx0, hx1, hx2, hx3⟩ := h1.dones
  obtain ⟨a2, b2, off2, cap2, rfl, hcap2, hmax2, ha2, hy0, hy1, hy2, hy3⟩ := h2.dones
  unfold maxLen at hmax hmax2
  by_cases hl : l1.length = l2.length
  · have hne : ((l1.length : Int) != (l2.length : Int)) = false := by rw [bne_eq_false_iff_eq]; omega
    have HL : Hid (l1.length = l2.length) := hl
    have hl2 : l1.length ≤ l2.length := by omega
    clear hl
    go_enter Tryz.func15, Tryz.ntmps15
    go_wp2
    go_loopw [5, 13] (fun _ i wr => ∃ k : Nat, k ≤ l1.length ∧ i = .int .i64 k ∧ (∀ i, i < k → dC l1 i = dC l2 i ∧ dS l1 i = dS l2 i ∧ dV l1 i = dV l2 i ∧ dH l1 i = dH l2 i) ∧ Below w.heap.size w wr)
      (fun _ i _ => l1.length - (intOf i).toNat)
    case atStart => exact ⟨0, Nat.zero_le _, rfl, fun i hi => absurd hi (Nat.not_lt_zero _), Below.refl _ _⟩
    case round =>
      obtain ⟨k, hkl, rfl, hall, hb⟩ := hrel
      have ALL : Hid (∀ i, i < k → dC l1 i = dC l2 i ∧ dS l1 i = dS l2 i ∧ dV l1 i = dV l2 i ∧ dH l1 i = dH l2 i) := hall
      clear hall
      by_cases hlt : k < l1.length
      · have hal := ha (by omega)
        subst hal
        have hal2 := ha2 (by omega)
        subst hal2
        have hlt2 : k < l2.length := by omega
        have d0 := (hb.cell (by exact cell_lt (hx0 k hlt))).trans (hx0 k hlt)
        have d1 := (hb.cell (by exact cell_lt (hx1 k hlt))).trans (hx1 k hlt)
        have d2 := (hb.cell (by exact cell_lt (hx2 k hlt))).trans (hx2 k hlt)
        have d3 := (hb.cell (by exact cell_lt (hx3 k hlt))).trans (hx3 k hlt)
        have e0 := (hb.cell (by exact cell_lt (hy0 k hlt2))).trans (hy0 k hlt2)
        have e1 := (hb.cell (by exact cell_lt (hy1 k hlt2))).trans (hy1 k hlt2)
        have e2 := (hb.cell (by exact cell_lt (hy2 k hlt2))).trans (hy2 k hlt2)
        have e3 := (hb.cell (by exact cell_lt (hy3 k hlt2))).trans (hy3 k hlt2)
        have hg := Tryz.guardD
        have hq := Tryz.neqD (dC l1 k) (dS l1 k) (dV l1 k) (dH l1 k) (dC l2 k) (dS l2 k) (dV l2 k) (dH l2 k)
        clear ha ha2 hx0 hx1 hx2 hx3 hy0 hy1 hy2 hy3
        by_cases he : dC l1 k = dC l2 k ∧ dS l1 k = dS l2 k ∧ dV l1 k = dV l2 k ∧ dH l1 k = dH l2 k
        · rw [decide_eq_true he, Bool.not_true] at hq
          have EQ : Hid _ := he
          clear he
          go_wp2
          go_quiet (fail)
          go_wp2
          go_roundw
          case rel => exact ⟨k + 1, by omega, by go_num, fun i hi => if h : i < k then ALL.out i h else by rw [show i = k by omega]; exact EQ.out, below_drewN hb _⟩
          case measure => simp [intOf]; omega
        · rw [decide_eq_false he, Bool.not_false] at hq
          have NE : Hid (decide (l1 = l2) = false) := decide_eq_false (fun e => he (by subst e; exact ⟨rfl, rfl, rfl, rfl⟩))
          clear he
          go_wp2
          go_quiet (fail)
          go_wp2
          go_ret
          exact ⟨ret_bool NE.out.symm, below_drewN hb _⟩
      · go_wp2
        go_ret
        refine ⟨ret_bool ?_, hb⟩
        symm
        rw [decide_eq_true_iff]
        exact dl_ext HL.out (fun i hi => ALL.out i (by omega))
  · have hne : ((l1.length : Int) != (l2.length : Int)) = true := by rw [bne_iff_ne]; omega
    go_enter Tryz.func15, Tryz.ntmps15
    go_wp2
    go_ret
    refine ⟨ret_bool ?_, Below.refl _ _⟩
    symm
    rw [decide_eq_false_iff_not]
    intro h; exact hl (by rw [h])

set_option maxHeartbeats 2000000 in
theorem equalP_any (v1 v2 : Value) (l1 l2 : PL) (w : World) (h1 : Row w v1 l1.length (flatP l1)) (h2 : Row w v2 l2.length (flatP l2)) :
    Calls Tryz.prog 16 #[v1, v2] w fun e w' => e = .returned (.bool (decide (l1 = l2))) ∧ Below w.heap.size w w' := by
  obtain ⟨a, b, off, cap, rfl, hcap, hmax, ha, hx0, hx1⟩ := h1.pairs
  obtain ⟨a2, b2, off2, cap2, rfl, hcap2, hmax2, ha2, hy0, hy1⟩ := h2.pairs
  unfold maxLen at hmax hmax2
  by_cases hl : l1.length = l2.length
  · have hne : ((l1.length : Int) != (l2.length : Int)) = false := by rw [bne_eq_false_iff_eq]; omega
    have HL : Hid (l1.length = l2.length) := hl
    have hl2 : l1.length ≤ l2.length := by omega
    clear hl
    go_enter Tryz.func16, Tryz.ntmps16
    go_wp2
    go_loopw [5, 13] (fun _ i wr => ∃ k : Nat, k ≤ l1.length ∧ i = .int .i64 k ∧ (∀ i, i < k → kOf l1 i = kOf l2 i ∧ vOf l1 i = vOf l2 i) ∧ Below w.heap.size w wr)
      (fun _ i _ => l1.length - (intOf i).toNat)
    case atStart => exact ⟨0, Nat.zero_le _, rfl, fun i hi => absurd hi (Nat.not_lt_zero _), Below.refl _ _⟩
    case round =>
      obtain ⟨k, hkl, rfl, hall, hb⟩ := hrel
      have ALL : Hid (∀ i, i < k → kOf l1 i = kOf l2 i ∧ vOf l1 i = vOf l2 i) := hall
      clear hall
      by_cases hlt : k < l1.length
      · have hal := ha (by omega)
        subst hal
        have hal2 := ha2 (by omega)
        subst hal2
        have hlt2 : k < l2.length := by omega
        have d0 := (hb.cell (by exact cell_lt (hx0 k hlt))).trans (hx0 k hlt)
        have d1 := (hb.cell (by exact cell_lt (hx1 k hlt))).trans (hx1 k hlt)
        have e0 := (hb.cell (by exact cell_lt (hy0 k hlt2))).trans (hy0 k hlt2)
        have e1 := (hb.cell (by exact cell_lt (hy1 k hlt2))).trans (hy1 k hlt2)
        have hg := Tryz.guardP
        have hq := Tryz.neqP (kOf l1 k) (vOf l1 k) (kOf l2 k) (vOf l2 k)
        clear ha ha2 hx0 hx1 hy0 hy1
        by_cases he : kOf l1 k = kOf l2 k ∧ vOf l1 k = vOf l2 k
        · rw [decide_eq_true he, Bool.not_true] at hq
          have EQ : Hid _ := he
          clear he
          go_wp2
          go_quiet (fail)
          go_wp2
          go_roundw
          case rel => exact ⟨k + 1, by omega, by go_num, fun i hi => if h : i < k then ALL.out i h else by rw [show i = k by omega]; exact EQ.out, below_drewN hb _⟩
          case measure => simp [intOf]; omega
        · rw [decide_eq_false he, Bool.not_false] at hq
          have NE : Hid (decide (l1 = l2) = false) := decide_eq_false (fun e => he (by subst e; exact ⟨rfl, rfl⟩))
          clear he
          go_wp2
          go_quiet (fail)
          go_wp2
          go_ret
          exact ⟨ret_bool NE.out.symm, below_drewN hb _⟩
      · go_wp2
        go_ret
        refine ⟨ret_bool ?_, hb⟩
        symm
        rw [decide_eq_true_iff]
        exact pl_ext HL.out (fun i hi => ALL.out i (by omega))
  · have hne : ((l1.length : Int) != (l2.length : Int)) = true := by rw [bne_iff_ne]; omega
    go_enter Tryz.func16, Tryz.ntmps16
    go_wp2
    go_ret
    refine ⟨ret_bool ?_, Below.refl _ _⟩
    symm
    rw [decide_eq_false_iff_not]
    intro h; exact hl (by rw [h])

end Go.Proofs.YtccdleafkhnfmaaGreat
