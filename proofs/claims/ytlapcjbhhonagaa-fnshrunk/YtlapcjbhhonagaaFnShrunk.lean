/-
  The walk of the law FnShrunk.
-/
import Derived.Test.YtlapcjbhhonagaaFnMapAll
import Derived.Test.YtlapcjbhhonagaaImplShrink
import Derived.Test.YtlapcjbhhonagaaSpecShrinkB
import Derived.Test.YtlapcjbhhonagaaMathShrunk
namespace Go.Proofs.Ytlapcjbhhonagaa
open Go.RowKit

set_option maxRecDepth 100000 in
set_option maxHeartbeats 1000000 in
theorem fnShrunk_any (v : Value) (bs : List Int) (W0 : World) (hc : Code8 W0 v bs) :
    Calls Try.prog 3 #[v] W0 fun e w' => e = .returned (.bool true) ∧ Below W0.heap.size W0 w' := by
  obtain ⟨a0, cap0, hv, _, hle⟩ := hc.1.len
  by_cases hbig : bs.length ≤ 1048576
  · have hd : decide (bs.length > 1048576) = false := decide_eq_false (by omega)
    have CO : Hid (Code8 W0 v bs) := hc
    clear hc
    subst hv
    go_enter Try.func3, Try.ntmps3
    go_wp2_with fail
    refine (big_any _ _ _ hle _).mono ?_
    rintro e w0 ⟨rfl, hw0⟩
    subst hw0
    rw [hd]
    go_wp2_with fail
    refine (drawShrink_any _ bs _ CO.out hbig).mono ?_
    rintro e w1 ⟨v1, ms, rfl, hms, o1, b1⟩
    have R1 := Row.of_owns o1
    have I1 : Hid _ := And.intro R1 b1
    clear o1 b1 R1
    go_wp2_with fail
    refine (drawMapAll_any _ bs _ (CO.out.below I1.out.2) hbig).mono ?_
    rintro e w2 ⟨v2, v2', l, ms', rfl, hl, _, o2, _, b2⟩
    have R1 : Hid (Row w2 v1 ms.length (flatM ms)) := I1.out.1.below b2
    have R2 : Hid (Row w2 v2 l.length (flatP l)) := Row.of_owns o2
    have B2 : Hid _ := Below.and I1.out.2 b2
    clear o2 b2 I1
    go_wp2_with fail
    refine (implShrink_any _ ms _ R1.out (by omega)).mono ?_
    rintro e w3 ⟨v3, rfl, o3, b3⟩
    have hDl := shrinkF_length ms
    have OK : Hid _ := shrinkF_ok ms
    have AGAIN : Hid _ := shrink_again ms
    have SAME : Hid _ := allL_shrink l ms
    generalize hD : shrinkF ms = D at *
    have HD : Hid _ := hD
    clear hD
    have T1 : Hid (Row w3 v1 ms.length (flatM ms)) := R1.out.below b3
    have T2 : Hid (Row w3 v2 l.length (flatP l)) := R2.out.below b3
    have T3 : Hid (Row w3 v3 D.length (flatM D)) := Row.of_owns o3
    have B3 : Hid _ := Below.and B2.out b3
    clear o3 b3 R1 R2 B2
    obtain ⟨am, capm, rfl, hcm, hmm⟩ := T1.out.len
    have T3' := T3.out
    obtain ⟨ad, bd, offd, capd, rfl, hcd, hmd, had, hod, hkd, hvd⟩ := T3'.msgs
    have CELLS : Hid _ := And.intro had (And.intro hod (And.intro hkd hvd))
    clear had hod hkd hvd T3'
    unfold maxLen at hmm hmd
    have hnl : decide (ms.length < D.length) = false := decide_eq_false (by omega)
    go_wp2_with fail
    refine (specShrink_any _ ms _ T1.out (by omega)).mono ?_
    rintro e w4 ⟨v4, rfl, o4, b4⟩
    rw [HD.out] at o4
    have R4 : Hid (Row w4 v4 D.length (flatM D)) := Row.of_owns o4
    have B4 : Hid (Below w3.heap.size w3 w4) := b4
    clear o4 b4
    go_wp2_with fail
    refine (sameMsgs_any _ _ D D _ (T3.out.below B4.out) R4.out).mono ?_
    rintro e w5 ⟨rfl, b5⟩
    rw [decide_eq_true rfl]
    have B5 : Hid (Below w3.heap.size w3 w5) := Below.and B4.out b5
    clear b5 R4 B4
    go_wp2_with fail
    refine (implShrink_any _ D _ (T3.out.below B5.out) (by omega)).mono ?_
    rintro e w6 ⟨v6, rfl, o6, b6⟩
    rw [AGAIN.out] at o6
    have R6 : Hid (Row w6 v6 D.length (flatM D)) := Row.of_owns o6
    have B6 : Hid (Below w3.heap.size w3 w6) := Below.and B5.out b6
    clear o6 b6 B5
    go_wp2_with fail
    refine (sameMsgs_any _ _ D D _ R6.out (T3.out.below B6.out)).mono ?_
    rintro e w7 ⟨rfl, b7⟩
    rw [decide_eq_true rfl]
    have B7 : Hid (Below w3.heap.size w3 w7) := Below.and B6.out b7
    clear b7 R6 B6
    go_wp2
    go_loopw [7] (fun i wr => ∃ j : Nat, j ≤ D.length ∧ i = .int .i64 j ∧ Hid (Below w3.heap.size w3 wr)) (fun i _ => D.length - (intOf i).toNat)
    case atStart => exact ⟨0, Nat.zero_le _, rfl, B7⟩
    case round =>
      obtain ⟨j, hj, rfl, FR⟩ := hrel
      clear B7
      by_cases hlt : j < D.length
      · obtain ⟨had, hod, hkd, hvd⟩ := CELLS.out
        have hal := had (by omega)
        subst hal
        have d0 := (FR.out.cell (by exact cell_lt (hod j hlt))).trans (hod j hlt)
        have d1 := (FR.out.cell (by exact cell_lt (hkd j hlt))).trans (hkd j hlt)
        have d2 := (FR.out.cell (by exact cell_lt (hvd j hlt))).trans (hvd j hlt)
        clear had hod hkd hvd
        have q := OK.out _ (mem_mO hlt)
        have q1 : Hid (msgOkB (mO D j) (mK D j) (mV D j) = true) := q.1
        have q2 : (mO D j == 4) = false := by rw [beq_eq_false_iff_ne]; exact q.2
        clear q
        go_wp2_with fail
        refine (implMsgOk_any _ _ _ _).mono ?_
        rintro e w8 ⟨rfl, b8⟩
        rw [q1.out]
        have F8 : Hid (Below w3.heap.size w3 w8) := Below.and FR.out b8
        have d8 := (b8.cell (by exact cell_lt d0)).trans d0
        clear b8 d0 d1 d2
        go_wp2
        go_roundw
        case rel => exact ⟨j + 1, by omega, by go_num, F8⟩
        case measure => simp [intOf]; omega
      · go_wp2_with fail
        refine (implMapAll_any _ _ l D _ (T2.out.below FR.out) (T3.out.below FR.out) (by omega)).mono ?_
        rintro e w8 ⟨v8, rfl, o8, b8⟩
        rw [SAME.out] at o8
        have R8 : Hid (Row w8 v8 (allL l ms).length (flatP (allL l ms))) := Row.of_owns o8
        have F8 : Hid (Below w3.heap.size w3 w8) := Below.and FR.out b8
        clear o8 b8
        go_wp2_with fail
        refine (implMapAll_any _ _ l ms _ (T2.out.below F8.out) (T1.out.below F8.out) (by omega)).mono ?_
        rintro e w9 ⟨v9, rfl, o9, b9⟩
        have R9 : Hid (Row w9 v9 (allL l ms).length (flatP (allL l ms))) := Row.of_owns o9
        have R8' : Hid (Row w9 v8 (allL l ms).length (flatP (allL l ms))) := R8.out.below b9
        have F9 : Hid (Below w3.heap.size w3 w9) := Below.and F8.out b9
        clear o9 b9 R8 F8
        go_wp2_with fail
        refine (samePairs_any _ _ (allL l ms) (allL l ms) _ R8'.out R9.out).mono ?_
        rintro e w10 ⟨rfl, b10⟩
        rw [decide_eq_true rfl]
        have FIN : Hid _ := Below.and B3.out (Below.and F9.out b10)
        clear b10
        go_wp2
        go_ret
        exact ⟨rfl, FIN.out⟩
  · have hd : decide (bs.length > 1048576) = true := decide_eq_true (by omega)
    subst hv
    go_enter Try.func3, Try.ntmps3
    go_wp2_with fail
    refine (big_any _ _ _ hle _).mono ?_
    rintro e w0 ⟨rfl, hw0⟩
    subst hw0
    rw [hd]
    go_wp2
    go_ret
    exact ⟨rfl, Below.refl _ _⟩

end Go.Proofs.Ytlapcjbhhonagaa
