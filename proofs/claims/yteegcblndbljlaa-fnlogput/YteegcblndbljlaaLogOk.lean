/-
  LogOk of both sides.
-/
import Derived.Test.YteegcblndbljlaaLogs
import Derived.BigQuiet
import Derived.Deep.DeepCutAuto
import Derived.Deep.CutBlock
import Derived.Deep.QuietTactic
namespace Go.Proofs.Yteegcblndbljlaa
open Go.RowKit

/-- the Term ahead of the entry k -/
def prevT (bt : Int) (l : EL) (k : Nat) : Int := if k = 0 then bt else eT l (k - 1)
theorem prevT_zero (bt : Int) (l : EL) : prevT bt l 0 = bt := rfl
theorem prevT_succ (bt : Int) (l : EL) (k : Nat) : prevT bt l (k + 1) = eT l k := by simp [prevT]
/-- the entry k is right behind the one ahead of it -/
def entAt (bt : Int) (l : EL) (k : Nat) : Bool := inB (eT l k) (prevT bt l k) 100000 && cmdOkB (eC l k) (eS l k) (eO l k) (eK l k) (eV l k)
def entsOk (bt : Int) (l : EL) : Bool := (List.range l.length).all (entAt bt l)
theorem entsOk_true {bt : Int} {l : EL} (h : ∀ k, k < l.length → entAt bt l k = true) : entsOk bt l = true := by
  unfold entsOk; rw [List.all_eq_true]; intro k hk; exact h k (List.mem_range.1 hk)
theorem entsOk_false {bt : Int} {l : EL} {k : Nat} (hk : k < l.length) (h : entAt bt l k = false) : entsOk bt l = false := by
  unfold entsOk; rw [List.all_eq_false]; exact ⟨k, List.mem_range.2 hk, by simp [h]⟩
theorem entsOk_at {bt : Int} {l : EL} (h : entsOk bt l = true) {k : Nat} (hk : k < l.length) : entAt bt l k = true := by
  unfold entsOk at h; rw [List.all_eq_true] at h; exact h k (List.mem_range.2 hk)
theorem entAt_t {bt : Int} {l : EL} {k : Nat} (h : inB (eT l k) (prevT bt l k) 100000 = false) : entAt bt l k = false := by simp [entAt, h]
theorem entAt_c {bt : Int} {l : EL} {k : Nat} (h : cmdOkB (eC l k) (eS l k) (eO l k) (eK l k) (eV l k) = false) : entAt bt l k = false := by simp [entAt, h]
theorem entAt_y {bt : Int} {l : EL} {k : Nat} (h1 : inB (eT l k) (prevT bt l k) 100000 = true) (h : cmdOkB (eC l k) (eS l k) (eO l k) (eK l k) (eV l k) = true) : entAt bt l k = true := by simp [entAt, h1, h]
/-- the log is right -/
def logOkB (b bt : Int) (l : EL) : Bool := inB b 0 100000 && (inB bt 0 100000 && (decide (b + l.length ≤ 100000) && entsOk bt l))
theorem logOk_1 {b bt : Int} {l : EL} (h : inB b 0 100000 = false) : logOkB b bt l = false := by simp [logOkB, h]
theorem logOk_2 {b bt : Int} {l : EL} (h : inB bt 0 100000 = false) : logOkB b bt l = false := by simp [logOkB, h]
theorem logOk_3 {b bt : Int} {l : EL} (h : ¬ b + l.length ≤ 100000) : logOkB b bt l = false := by simp [logOkB, h]
theorem logOk_4 {b bt : Int} {l : EL} (h : entsOk bt l = false) : logOkB b bt l = false := by simp [logOkB, h]
theorem logOk_5 {b bt : Int} {l : EL} (h1 : inB b 0 100000 = true) (h2 : inB bt 0 100000 = true) (h3 : b + l.length ≤ 100000) (h : entsOk bt l = true) : logOkB b bt l = true := by simp [logOkB, h1, h2, h3, h]

set_option maxRecDepth 100000 in
set_option maxHeartbeats 4000000 in
theorem specLogOk_any (b bt : Int) (v : Value) (l : EL) (w : World) (h : Row w v l.length (flatE l)) (hn : l.length ≤ 1099511627776) :
    Calls Try.prog 19 #[lgV b bt v] w fun e w' => e = .returned (.bool (logOkB b bt l)) ∧ Below w.heap.size w w' := by
  obtain ⟨a, bb, off, cap, rfl, hcap, hmax, ha, hx0, hx1, hx2, hx3, hx4, hx5⟩ := h.ents
  unfold maxLen at hmax
  have N1 : Hid (MBox 26 (w.alloc (.cells #[.int .i64 b, .int .i64 bt, .slice a l.length cap] 26)) w.heap.size #[.int .i64 b, .int .i64 bt, .slice a l.length cap]) := MBox.start _ w _
  have B1 : Hid (Below w.heap.size w (w.alloc (.cells #[.int .i64 b, .int .i64 bt, .slice a l.length cap] 26))) := bel_nw _ _
  have c1 := N1.out.cells
  clear h
  cases h1 : inB b 0 100000 with
  | false =>
    have E : Hid (logOkB b bt l = false) := logOk_1 h1
    clear hx0 hx1 hx2 hx3 hx4 hx5 ha
    go_enter Try.func19, Try.ntmps19
    go_wp2_with (go_at_call 57; refine (l1In_any _ _ _ _).mono ?_; rintro e w' ⟨rfl, rfl⟩)
    go_ret
    exact ⟨ret_bool E.out.symm, B1.out⟩
  | true =>
  cases h2 : inB bt 0 100000 with
  | false =>
    have E : Hid (logOkB b bt l = false) := logOk_2 h2
    clear hx0 hx1 hx2 hx3 hx4 hx5 ha
    go_enter Try.func19, Try.ntmps19
    go_wp2_with (go_at_call 57; refine (l1In_any _ _ _ _).mono ?_; rintro e w' ⟨rfl, rfl⟩)
    go_ret
    exact ⟨ret_bool E.out.symm, B1.out⟩
  | true =>
  have hb0 := (inB_iff.1 h1).1
  have hb1 := (inB_iff.1 h1).2
  by_cases h3 : b + l.length ≤ 100000
  · have HH : Hid _ := And.intro h1 (And.intro h2 h3)
    have hgt : ¬ (100000 : Int) < b + l.length := by omega
    go_enter Try.func19, Try.ntmps19
    go_wp2_with (go_at_call 57; refine (l1In_any _ _ _ _).mono ?_; rintro e w' ⟨rfl, rfl⟩)
    clear h1 h2 c1
    generalize w.alloc (.cells #[.int .i64 b, .int .i64 bt, .slice a l.length cap] 26) = W at *
    go_loopw [3, 4] (fun t i wr => ∃ j : Nat, j ≤ l.length ∧ i = .int .i64 j ∧ t = .int .i64 (prevT bt l j) ∧ Hid (∀ i, i < j → entAt bt l i = true) ∧ Hid (Below W.heap.size W wr))
      (fun _ i _ => l.length - (intOf i).toNat)
    case atStart => exact ⟨0, Nat.zero_le _, rfl, rfl, fun i hi => absurd hi (Nat.not_lt_zero _), Below.refl _ _⟩
    case round =>
      obtain ⟨j, hjl, rfl, rfl, ALL, hbW⟩ := hrel
      have c1 := (N1.out.step hbW.out).cells
      have hb : Hid (Below w.heap.size w wr) := Below.and B1.out hbW.out
      by_cases hlt : j < l.length
      · have hal := ha (by omega)
        subst hal
        have d0 : wr.cell? ⟨bb, off + j * 6, none⟩ = some (.int .i64 (eT l j)) := (hb.out.cell (by exact cell_lt (hx0 j hlt))).trans (hx0 j hlt)
        have d1 : wr.cell? ⟨bb, off + j * 6 + 1, none⟩ = some (.int .i64 (eC l j)) := (hb.out.cell (by exact cell_lt (hx1 j hlt))).trans (hx1 j hlt)
        have d2 : wr.cell? ⟨bb, off + j * 6 + 2, none⟩ = some (.int .i64 (eS l j)) := (hb.out.cell (by exact cell_lt (hx2 j hlt))).trans (hx2 j hlt)
        have d3 : wr.cell? ⟨bb, off + j * 6 + 3, none⟩ = some (.int .i64 (eO l j)) := (hb.out.cell (by exact cell_lt (hx3 j hlt))).trans (hx3 j hlt)
        have d4 : wr.cell? ⟨bb, off + j * 6 + 4, none⟩ = some (.int .i64 (eK l j)) := (hb.out.cell (by exact cell_lt (hx4 j hlt))).trans (hx4 j hlt)
        have d5 : wr.cell? ⟨bb, off + j * 6 + 5, none⟩ = some (.int .i64 (eV l j)) := (hb.out.cell (by exact cell_lt (hx5 j hlt))).trans (hx5 j hlt)
        clear hx1 hx2 hx3 hx4 hx5
        cases hT : inB (eT l j) (prevT bt l j) 100000 with
        | false =>
          have E : Hid (logOkB b bt l = false) := logOk_4 (entsOk_false hlt (entAt_t hT))
          clear hx0
          generalize prevT bt l j = pt at *
          go_wp2_with (go_at_call 57; refine (l1In_any _ _ _ _).mono ?_; rintro e w' ⟨rfl, rfl⟩)
          go_ret
          exact ⟨ret_bool E.out.symm, hb.out⟩
        | true =>
          generalize hpt : prevT bt l j = pt at *
          have HT : Hid (inB (eT l j) pt 100000 = true) := hT
          change Hid _ at hpt
          go_wp2_with (go_at_call 57; refine (l1In_any _ _ _ _).mono ?_; rintro e w' ⟨rfl, rfl⟩)
          refine (specCmdOk_any _ _ _ _ _ _).mono ?_
          rintro e w2 ⟨rfl, b2⟩
          have FW : Hid (Below W.heap.size W w2) := Below.and hbW.out b2
          have FB : Hid (Below w.heap.size w w2) := Below.and hb.out b2
          clear b2 d0 d1 d2 d3 d4 d5 c1 hT
          have c1 := (N1.out.step FW.out).cells
          have d0 : w2.cell? ⟨bb, off + j * 6, none⟩ = some (.int .i64 (eT l j)) := (FB.out.cell (by exact cell_lt (hx0 j hlt))).trans (hx0 j hlt)
          clear hx0
          generalize hC : cmdOkB (eC l j) (eS l j) (eO l j) (eK l j) (eV l j) = q
          cases q with
          | false =>
            have E : Hid (logOkB b bt l = false) := logOk_4 (entsOk_false hlt (entAt_c hC))
            clear hC
            go_wp2
            go_ret
            exact ⟨ret_bool E.out.symm, FB.out⟩
          | true =>
            have OK : Hid (entAt bt l j = true) := by
              have := HT.out
              rw [← hpt.out] at this
              exact entAt_y this hC
            clear hC
            go_wp2
            go_roundw
            case rel => exact ⟨j + 1, by omega, by go_num, by rw [prevT_succ], fun i hi => if h : i < j then ALL.out i h else by rw [show i = j by omega]; exact OK.out, FW.out⟩
            case measure => simp [intOf]; omega
      · have E : Hid (logOkB b bt l = true) := logOk_5 HH.out.1 HH.out.2.1 HH.out.2.2 (entsOk_true (fun i hi => ALL.out i (by omega)))
        clear hx0 hx1 hx2 hx3 hx4 hx5
        go_wp2
        go_ret
        exact ⟨ret_bool E.out.symm, hb.out⟩
  · have E : Hid (logOkB b bt l = false) := logOk_3 h3
    have hgt : (100000 : Int) < b + l.length := by omega
    clear hx0 hx1 hx2 hx3 hx4 hx5 ha h3
    go_enter Try.func19, Try.ntmps19
    go_wp2_with (go_at_call 57; refine (l1In_any _ _ _ _).mono ?_; rintro e w' ⟨rfl, rfl⟩)
    go_ret
    exact ⟨ret_bool E.out.symm, B1.out⟩

end Go.Proofs.Yteegcblndbljlaa
