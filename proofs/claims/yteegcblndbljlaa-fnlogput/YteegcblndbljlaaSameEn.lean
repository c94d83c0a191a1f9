/-
  The laws' own sameEntries and sameLog.
-/
import Derived.Test.YteegcblndbljlaaLogs
import Derived.Laws.StructEq
import Derived.BigQuiet
import Derived.Deep.QuietTactic
namespace Go.Proofs.Yteegcblndbljlaa
open Go.RowKit

theorem Try.neqE (t c s o k v t2 c2 s2 o2 k2 v2 : Int) (w : World) : (binOp .neq 39 (enV t c s o k v) (enV t2 c2 s2 o2 k2 v2)).run Try.prog w = .ok (.bool (!(eqEnB (t, c, s, o, k, v) (t2, c2, s2, o2, k2, v2)))) w := by
  have u3 := Try.underlying3
  have a3 := Try.isAgg3
  have z3 := Try.sizeOf3
  have a4 := Try.isAgg37
  have z4 := Try.sizeOf37
  have a5 := Try.isAgg35
  have z5 := Try.sizeOf35
  have hS : Try.prog.underlying 39 = some (.struct (Try.prog.fieldsOf 39)) := by kernel_rfl
  have hp : Try.prog.stoodInHeld 39 = false := by kernel_rfl
  rw [run_neq_struct, show (10000 : Nat) = 9999 + 1 from rfl, run_equalIn_agg w 9999 39 _ _ hS hp]
  simp only [Program.fieldsOf, Try.underlying39]
  go_simp
  unfold eqEnB
  by_cases h1 : t = t2
  · by_cases h2 : c = c2
    · by_cases h3 : s = s2
      · by_cases h4 : o = o2
        · by_cases h5 : k = k2
          · by_cases h6 : v = v2
            · simp [h1, h2, h3, h4, h5, h6]
            · simp [h1, h2, h3, h4, h5, h6]
          · simp [h1, h2, h3, h4, h5]
        · simp [h1, h2, h3, h4]
      · simp [h1, h2, h3]
    · simp [h1, h2]
  · simp [h1]
theorem Try.guardE : Try.prog.eqGuardType Try.prog.depth 39 = false := by kernel_rfl

set_option maxHeartbeats 2000000 in
theorem sameEntries_any (v1 v2 : Value) (l1 l2 : EL) (w : World) (h1 : Row w v1 l1.length (flatE l1)) (h2 : Row w v2 l2.length (flatE l2)) :
    Calls Try.prog 54 #[v1, v2] w fun e w' => e = .returned (.bool (decide (l1 = l2))) ∧ Below w.heap.size w w' := by
  obtain ⟨a, b, off, cap, rfl, hcap, hmax, ha, hx0, hx1, hx2, hx3, hx4, hx5⟩ := h1.ents
  obtain ⟨a2, b2, off2, cap2, rfl, hcap2, hmax2, ha2, hy0, hy1, hy2, hy3, hy4, hy5⟩ := h2.ents
  unfold maxLen at hmax hmax2
  by_cases hl : l1.length = l2.length
  · have hne : ((l1.length : Int) != (l2.length : Int)) = false := by rw [bne_eq_false_iff_eq]; omega
    have HL : Hid (l1.length = l2.length) := hl
    have hl2 : l1.length ≤ l2.length := by omega
    clear hl
    go_enter Try.func54, Try.ntmps54
    go_wp2
    go_loopw [5] (fun i wr => ∃ k : Nat, k ≤ l1.length ∧ i = .int .i64 k ∧ (∀ i, i < k → eT l1 i = eT l2 i ∧ eC l1 i = eC l2 i ∧ eS l1 i = eS l2 i ∧ eO l1 i = eO l2 i ∧ eK l1 i = eK l2 i ∧ eV l1 i = eV l2 i) ∧ Below w.heap.size w wr)
      (fun i _ => l1.length - (intOf i).toNat)
    case atStart => exact ⟨0, Nat.zero_le _, rfl, fun i hi => absurd hi (Nat.not_lt_zero _), Below.refl _ _⟩
    case round =>
      obtain ⟨k, hkl, rfl, hall, hb⟩ := hrel
      have ALL : Hid (∀ i, i < k → eT l1 i = eT l2 i ∧ eC l1 i = eC l2 i ∧ eS l1 i = eS l2 i ∧ eO l1 i = eO l2 i ∧ eK l1 i = eK l2 i ∧ eV l1 i = eV l2 i) := hall
      clear hall
      by_cases hlt : k < l1.length
      · have hal := ha (by omega)
        subst hal
        have hal2 := ha2 (by omega)
        subst hal2
        have hlt2 : k < l2.length := by omega
        have d0 := (hb.cell (by exact cell_lt (hx0 k hlt))).trans (hx0 k hlt)
        have e0 := (hb.cell (by exact cell_lt (hy0 k hlt2))).trans (hy0 k hlt2)
        have d1 := (hb.cell (by exact cell_lt (hx1 k hlt))).trans (hx1 k hlt)
        have e1 := (hb.cell (by exact cell_lt (hy1 k hlt2))).trans (hy1 k hlt2)
        have d2 := (hb.cell (by exact cell_lt (hx2 k hlt))).trans (hx2 k hlt)
        have e2 := (hb.cell (by exact cell_lt (hy2 k hlt2))).trans (hy2 k hlt2)
        have d3 := (hb.cell (by exact cell_lt (hx3 k hlt))).trans (hx3 k hlt)
        have e3 := (hb.cell (by exact cell_lt (hy3 k hlt2))).trans (hy3 k hlt2)
        have d4 := (hb.cell (by exact cell_lt (hx4 k hlt))).trans (hx4 k hlt)
        have e4 := (hb.cell (by exact cell_lt (hy4 k hlt2))).trans (hy4 k hlt2)
        have d5 := (hb.cell (by exact cell_lt (hx5 k hlt))).trans (hx5 k hlt)
        have e5 := (hb.cell (by exact cell_lt (hy5 k hlt2))).trans (hy5 k hlt2)
        have hg := Try.guardE
        have hq := Try.neqE (eT l1 k) (eC l1 k) (eS l1 k) (eO l1 k) (eK l1 k) (eV l1 k) (eT l2 k) (eC l2 k) (eS l2 k) (eO l2 k) (eK l2 k) (eV l2 k)
        clear ha ha2 hx0 hx1 hx2 hx3 hx4 hx5 hy0 hy1 hy2 hy3 hy4 hy5
        cases he : eqEnB (eT l1 k, eC l1 k, eS l1 k, eO l1 k, eK l1 k, eV l1 k) (eT l2 k, eC l2 k, eS l2 k, eO l2 k, eK l2 k, eV l2 k)
        · rw [he, Bool.not_false] at hq
          have NE : Hid (decide (l1 = l2) = false) := decide_eq_false (ne_of_eqEnB he)
          clear he
          go_wp2
          go_quiet (fail)
          go_wp2
          go_ret
          exact ⟨ret_bool NE.out.symm, below_drewN hb _⟩
        · rw [he, Bool.not_true] at hq
          have EQ : Hid (eT l1 k = eT l2 k ∧ eC l1 k = eC l2 k ∧ eS l1 k = eS l2 k ∧ eO l1 k = eO l2 k ∧ eK l1 k = eK l2 k ∧ eV l1 k = eV l2 k) := by show _ ∧ _; simpa [eqEnB] using he
          clear he
          go_wp2
          go_quiet (fail)
          go_wp2
          go_roundw
          case rel => exact ⟨k + 1, by omega, by go_num, fun i hi => if h : i < k then ALL.out i h else by rw [show i = k by omega]; exact EQ.out, below_drewN hb _⟩
          case measure => simp [intOf]; omega
      · go_wp2
        go_ret
        refine ⟨ret_bool ?_, hb⟩
        symm
        rw [decide_eq_true_iff]
        exact el_ext HL.out (fun i hi => ALL.out i (by omega))
  · have hne : ((l1.length : Int) != (l2.length : Int)) = true := by rw [bne_iff_ne]; omega
    go_enter Try.func54, Try.ntmps54
    go_wp2
    go_ret
    refine ⟨ret_bool ?_, Below.refl _ _⟩
    symm
    rw [decide_eq_false_iff_not]
    intro h; exact hl (by rw [h])

set_option maxHeartbeats 1000000 in
theorem sameLog_any (b t b2 t2 : Int) (v v2 : Value) (l l2 : EL) (w : World) (h : Row w v l.length (flatE l)) (h2 : Row w v2 l2.length (flatE l2)) :
    Calls Try.prog 17 #[lgV b t v, lgV b2 t2 v2] w fun e w' => e = .returned (.bool (decide (b = b2 ∧ t = t2 ∧ l = l2))) ∧ Below w.heap.size w w' := by
  have H : Hid _ := And.intro h h2
  have N1 : Hid (MBox 26 ((w.alloc (.cells #[.int .i64 b, .int .i64 t, v] 26)).alloc (.cells #[.int .i64 b2, .int .i64 t2, v2] 26)) w.heap.size #[.int .i64 b, .int .i64 t, v]) := (MBox.start _ _ _).step (bel_nw _ _)
  have N2 : Hid (MBox 26 ((w.alloc (.cells #[.int .i64 b, .int .i64 t, v] 26)).alloc (.cells #[.int .i64 b2, .int .i64 t2, v2] 26)) (w.alloc (.cells #[.int .i64 b, .int .i64 t, v] 26)).heap.size #[.int .i64 b2, .int .i64 t2, v2]) := MBox.start _ _ _
  have B2 : Hid (Below w.heap.size w ((w.alloc (.cells #[.int .i64 b, .int .i64 t, v] 26)).alloc (.cells #[.int .i64 b2, .int .i64 t2, v2] 26))) := Below.and (bel_nw _ _) (bel_nw _ _)
  have e1 : (w.alloc (.cells #[.int .i64 b, .int .i64 t, v] 26)).heap.size = w.heap.size + 1 := by simp
  rw [e1] at N2
  have c1 := N1.out.cells
  have d1 := N2.out.cells
  clear h h2 e1
  by_cases hb : b = b2
  · by_cases ht : t = t2
    · subst hb ht
      have E : Hid (decide (b = b ∧ t = t ∧ l = l2) = decide (l = l2)) := by show _ = _; simp
      go_enter Try.func17, Try.ntmps17
      go_wp2_with fail
      generalize (w.alloc (.cells #[.int .i64 b, .int .i64 t, v] 26)).alloc (.cells #[.int .i64 b, .int .i64 t, v2] 26) = W at *
      refine Calls.mono (sameEntries_any v v2 l l2 W (H.out.1.below B2.out) (H.out.2.below B2.out)) ?_
      rintro e w2 ⟨rfl, b2⟩
      have B3 : Hid (Below w.heap.size w w2) := Below.and B2.out b2
      clear b2
      generalize hq : decide (l = l2) = q
      cases q
      · have HQ : Hid (decide (l = l2) = false) := hq
        clear hq
        go_wp2
        go_ret
        exact ⟨ret_bool (E.out.trans HQ.out).symm, B3.out⟩
      · have HQ : Hid (decide (l = l2) = true) := hq
        clear hq
        go_wp2
        go_ret
        exact ⟨ret_bool (E.out.trans HQ.out).symm, B3.out⟩
    · have hs' : (t == t2) = false := by simpa using ht
      have E : Hid (decide (b = b2 ∧ t = t2 ∧ l = l2) = false) := by show _ = _; simp [ht]
      subst hb
      go_enter Try.func17, Try.ntmps17
      go_wp2_with fail
      go_ret
      exact ⟨ret_bool (by first | exact E.out.symm | rfl), B2.out⟩
  · have hs' : (b == b2) = false := by simpa using hb
    have E : Hid (decide (b = b2 ∧ t = t2 ∧ l = l2) = false) := by show _ = _; simp [hb]
    go_enter Try.func17, Try.ntmps17
    go_wp2_with fail
    go_ret
    exact ⟨ret_bool (by first | exact E.out.symm | rfl), B2.out⟩

end Go.Proofs.Yteegcblndbljlaa
