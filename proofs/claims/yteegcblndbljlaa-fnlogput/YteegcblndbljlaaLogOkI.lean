/-
  LogOk of the program.
-/
import Derived.Test.YteegcblndbljlaaLogOk
namespace Go.Proofs.Yteegcblndbljlaa
open Go.RowKit

theorem indexOk_any (x : Int) (w : World) :
    Calls Try.prog 55 #[.int .i64 x] w fun e w' => e = .returned (.bool (inB x 0 100000)) ∧ w' = w := by
  by_cases h1 : 0 ≤ x
  · by_cases h2 : x ≤ 100000
    · have E : Hid (inB x 0 100000 = true) := inB_true h1 h2
      go_enter Try.func55, Try.ntmps55
      go_wp2
      go_ret
      exact ⟨ret_bool E.out.symm, rfl⟩
    · have E : Hid (inB x 0 100000 = false) := inB_false2 h2
      go_enter Try.func55, Try.ntmps55
      go_wp2
      go_ret
      exact ⟨ret_bool E.out.symm, rfl⟩
  · have E : Hid (inB x 0 100000 = false) := inB_false1 h1
    go_enter Try.func55, Try.ntmps55
    go_wp2
    go_ret
    exact ⟨ret_bool E.out.symm, rfl⟩

set_option maxRecDepth 100000 in
set_option maxHeartbeats 4000000 in
theorem implLogOk_any (b bt : Int) (v : Value) (l : EL) (w : World) (h : Row w v l.length (flatE l)) (hn : l.length ≤ 1099511627776) :
    Calls Try.prog 18 #[lgV b bt v] w fun e w' => e = .returned (.bool (logOkB b bt l)) ∧ Below w.heap.size w w' := by
  obtain ⟨a, bb, off, cap, rfl, hcap, hmax, ha, hx0, hx1, hx2, hx3, hx4, hx5⟩ := h.ents
  unfold maxLen at hmax
  have N1 : Hid (MBox 26 (w.alloc (.cells #[.int .i64 b, .int .i64 bt, .slice a l.length cap] 26)) w.heap.size #[.int .i64 b, .int .i64 bt, .slice a l.length cap]) := MBox.start _ w _
  have B1 : Hid (Below w.heap.size w (w.alloc (.cells #[.int .i64 b, .int .i64 bt, .slice a l.length cap] 26))) := bel_nw _ _
  have c1 := N1.out.cells
  clear h
  cases h1 : inB b 0 100000 with
  | false =>
    have E : Hid (logOkB b bt l = false) := logOk_1 h1
    clear hx0 hx1 hx2 hx3 hx4 hx5 ha
    go_enter Try.func18, Try.ntmps18
    go_wp2_with (go_at_call 55; refine (indexOk_any _ _).mono ?_; rintro e w' ⟨rfl, rfl⟩)
    go_ret
    exact ⟨ret_bool E.out.symm, B1.out⟩
  | true =>
  cases h2 : inB bt 0 100000 with
  | false =>
    have E : Hid (logOkB b bt l = false) := logOk_2 h2
    clear hx0 hx1 hx2 hx3 hx4 hx5 ha
    go_enter Try.func18, Try.ntmps18
    go_wp2_with (go_at_call 55; refine (indexOk_any _ _).mono ?_; rintro e w' ⟨rfl, rfl⟩)
    go_ret
    exact ⟨ret_bool E.out.symm, B1.out⟩
  | true =>
  have hb0 := (inB_iff.1 h1).1
  have hb1 := (inB_iff.1 h1).2
  by_cases h3 : b + l.length ≤ 100000
  · have HH : Hid _ := And.intro h1 (And.intro h2 h3)
    have h3' : inB (b + (l.length : Int)) 0 100000 = true := inB_true (by omega) h3
    go_enter Try.func18, Try.ntmps18
    go_wp2_with (go_at_call 55; refine (indexOk_any _ _).mono ?_; rintro e w' ⟨rfl, rfl⟩)
    clear h1 h2 c1 h3'
    generalize w.alloc (.cells #[.int .i64 b, .int .i64 bt, .slice a l.length cap] 26) = W at *
    go_loopw [3, 31] (fun t i wr => ∃ j : Nat, j ≤ l.length ∧ i = .int .i64 j ∧ t = .int .i64 (prevT bt l j) ∧ Hid (∀ i, i < j → entAt bt l i = true) ∧ Hid (Below W.heap.size W wr))
      (fun _ i _ => l.length - (intOf i).toNat)
    case atStart => exact ⟨0, Nat.zero_le _, rfl, rfl, fun i hi => absurd hi (Nat.not_lt_zero _), Below.refl _ _⟩
    case round =>
      obtain ⟨j, hjl, rfl, rfl, ALL, hbW⟩ := hrel
      have hb : Hid (Below w.heap.size w wr) := Below.and B1.out hbW.out
      by_cases hlt : j < l.length
      · have hal := ha (by omega)
        subst hal
        have d0 : wr.cell? ⟨bb, off + j * 6, none⟩ = some (.int .i64 (eT l j)) := (hb.out.cell (by exact cell_lt (hx0 j hlt))).trans (hx0 j hlt)
        have d1 : wr.cell? ⟨bb, off + j * 6 + 1, none⟩ = some (.int .i64 (eC l j)) := (hb.out.cell (by exact cell_lt (hx1 j hlt))).trans (hx1 j hlt)
        have d2 : wr.cell? ⟨bb, off + j * 6 + 2, none⟩ = some (.int .i64 (eS l j)) := (hb.out.cell (by exact cell_lt (hx2 j hlt))).trans (hx2 j hlt)
        have d3 : wr.cell? ⟨bb, off + j * 6 + 3, none⟩ = some (.int .i64 (eO l j)) := (hb.out.cell (by exact cell_lt (hx3 j hlt))).trans (hx3 j hlt)
        have d4 : wr.cell? ⟨bb, off + j * 6 + 4, none⟩ = some (.int .i64 (eK l j)) := (hb.out.cell (by exact cell_lt (hx4 j hlt))).trans (hx4 j hlt)
        have d5 : wr.cell? ⟨bb, off + j * 6 + 5, none⟩ = some (.int .i64 (eV l j)) := (hb.out.cell (by exact cell_lt (hx5 j hlt))).trans (hx5 j hlt)
        clear hx0 hx1 hx2 hx3 hx4 hx5
        have NB : Hid (Below wr.heap.size wr (wr.alloc (.cells #[.int .i64 (eT l j), .int .i64 (eC l j), .int .i64 (eS l j), .int .i64 (eO l j), .int .i64 (eK l j), .int .i64 (eV l j)] 39))) := bel_nw _ _
        have NX : Hid (MBox 39 (wr.alloc (.cells #[.int .i64 (eT l j), .int .i64 (eC l j), .int .i64 (eS l j), .int .i64 (eO l j), .int .i64 (eK l j), .int .i64 (eV l j)] 39)) wr.heap.size #[.int .i64 (eT l j), .int .i64 (eC l j), .int .i64 (eS l j), .int .i64 (eO l j), .int .i64 (eK l j), .int .i64 (eV l j)]) := MBox.start _ wr _
        generalize hpt : prevT bt l j = pt at *
        have HPT : Hid _ := hpt
        clear hpt
        go_upto_region 7 with fail
        generalize wr.alloc (.cells #[.int .i64 (eT l j), .int .i64 (eC l j), .int .i64 (eS l j), .int .i64 (eO l j), .int .i64 (eK l j), .int .i64 (eV l j)] 39) = V at *
        have FV : Hid (Below W.heap.size W V) := Below.and hbW.out NB.out
        have FB : Hid (Below w.heap.size w V) := Below.and B1.out FV.out
        generalize wr.heap.size = bx at *
        have e0 := NX.out.cells
        clear d0 d1 d2 d3 d4 d5 NB hb hbW
        by_cases t1 : eT l j < pt
        · have E : Hid (logOkB b bt l = false) := logOk_4 (entsOk_false hlt (entAt_t (by rw [HPT.out]; exact inB_false1 (by omega))))
          go_wp2_with fail
          go_ret
          exact ⟨ret_bool E.out.symm, FB.out⟩
        · by_cases t2 : eT l j ≤ 100000
          · have HT : Hid (inB (eT l j) (prevT bt l j) 100000 = true) := by show _ = _; rw [HPT.out]; exact inB_true (by omega) t2
            have t2' : ¬ (100000 : Int) < eT l j := by omega
            go_wp2_with fail
            refine (implCmdOk_any _ _ _ _ _ _).mono ?_
            rintro e w2 ⟨rfl, b2⟩
            have FW : Hid (Below W.heap.size W w2) := Below.and FV.out b2
            have FB2 : Hid (Below w.heap.size w w2) := Below.and FB.out b2
            have NX2 := NX.out.step b2
            clear b2 e0
            have e0 := NX2.cells
            clear NX2
            generalize hC : cmdOkB (eC l j) (eS l j) (eO l j) (eK l j) (eV l j) = q
            cases q with
            | false =>
              have E : Hid (logOkB b bt l = false) := logOk_4 (entsOk_false hlt (entAt_c hC))
              clear hC
              go_wp2
              go_ret
              exact ⟨ret_bool E.out.symm, FB2.out⟩
            | true =>
              have OK : Hid (entAt bt l j = true) := entAt_y HT.out hC
              clear hC
              go_wp2
              go_roundw
              case rel => exact ⟨j + 1, by omega, by go_num, by rw [prevT_succ], fun i hi => if h : i < j then ALL.out i h else by rw [show i = j by omega]; exact OK.out, FW.out⟩
              case measure => simp [intOf]; omega
          · have E : Hid (logOkB b bt l = false) := logOk_4 (entsOk_false hlt (entAt_t (inB_false2 t2)))
            have t2' : (100000 : Int) < eT l j := by omega
            go_wp2_with fail
            go_ret
            exact ⟨ret_bool E.out.symm, FB.out⟩
      · have E : Hid (logOkB b bt l = true) := logOk_5 HH.out.1 HH.out.2.1 HH.out.2.2 (entsOk_true (fun i hi => ALL.out i (by omega)))
        clear hx0 hx1 hx2 hx3 hx4 hx5
        go_wp2
        go_ret
        exact ⟨ret_bool E.out.symm, hb.out⟩
  · have E : Hid (logOkB b bt l = false) := logOk_3 h3
    have h3' : inB (b + (l.length : Int)) 0 100000 = false := inB_false2 h3
    clear hx0 hx1 hx2 hx3 hx4 hx5 ha h3
    go_enter Try.func18, Try.ntmps18
    go_wp2_with (go_at_call 55; refine (indexOk_any _ _).mono ?_; rintro e w' ⟨rfl, rfl⟩)
    go_ret
    exact ⟨ret_bool E.out.symm, B1.out⟩

end Go.Proofs.Yteegcblndbljlaa
