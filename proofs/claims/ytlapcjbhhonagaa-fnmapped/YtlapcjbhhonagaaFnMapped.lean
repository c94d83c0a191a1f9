/-
  The walk of the law FnMapped.
-/
import Derived.Test.YtlapcjbhhonagaaFnMapAll
import Derived.Test.YtlapcjbhhonagaaDrawF
import Derived.Test.YtlapcjbhhonagaaMathDo
import Derived.Test.YtlapcjbhhonagaaMapOk
namespace Go.Proofs.Ytlapcjbhhonagaa
open Go.RowKit

/-- the three cells of a message's place, in a later world -/
theorem cells3 {w w' : World} {M : Nat} {a b c : Value} (h : w.heap[M]? = some (.cells #[a, b, c] 33 (0, 0))) (hb : Below w.heap.size w w') :
    w'.cell? ⟨M, 0, none⟩ = some a ∧ w'.cell? ⟨M, 1, none⟩ = some b ∧ w'.cell? ⟨M, 2, none⟩ = some c := by
  have hlt : M < w.heap.size := (Array.getElem?_eq_some_iff.1 h).1
  exact (at3 (by rw [hb.block M hlt]; exact h)).1

theorem keep3 {wB wN : World} {M : Nat} {o k x : Int} (h : wB.heap[M]? = some (.cells #[.int .i64 o, .int .i64 k, .int .i64 x] 33 (0, 0))) (hb : Below wB.heap.size wB wN) :
    wN.cell? ⟨M, 0, none⟩ = some (.int .i64 o) ∧ wN.cell? ⟨M, 1, none⟩ = some (.int .i64 k) ∧ wN.cell? ⟨M, 2, none⟩ = some (.int .i64 x) ∧ Hid (Below wB.heap.size wB wN) := by
  obtain ⟨h0, h1, h2⟩ := cells3 h hb
  exact ⟨h0, h1, h2, hb⟩

set_option maxRecDepth 100000 in
set_option maxHeartbeats 4000000 in
theorem fnMapped_any (v : Value) (bs : List Int) (W0 : World) (hc : Code8 W0 v bs) :
    Calls Try.prog 4 #[v] W0 fun e w' => e = .returned (.bool true) ∧ Below W0.heap.size W0 w' := by
  obtain ⟨a0, cap0, hv, _, hle⟩ := hc.1.len
  by_cases hbig : bs.length ≤ 1048576
  · have hd : decide (bs.length > 1048576) = false := decide_eq_false (by omega)
    have CO : Hid (Code8 W0 v bs) := hc
    clear hc
    subst hv
    go_enter Try.func4, Try.ntmps4
    go_wp2_with fail
    refine (big_any _ _ _ hle _).mono ?_
    rintro e w0 ⟨rfl, hw0⟩
    subst hw0
    rw [hd]
    go_wp2_with fail
    refine (drawMapDo_any _ bs _ CO.out hbig).mono ?_
    rintro e w1 ⟨v1, l, o, k, x, rfl, hl, o1, b1⟩
    have R1 : Hid (Row w1 v1 l.length (flatP l)) := Row.of_owns o1
    have B1 : Hid _ := b1
    clear o1 b1
    go_wp2_with fail
    generalize hWA : w1.alloc (.cells #[.int .i64 o, .int .i64 k, .int .i64 x] 33) = wA
    have bA : Below w1.heap.size w1 wA := by rw [← hWA]; exact (Below.refl _ _).alloc (Nat.le_refl _) _
    have hM0 : wA.heap[w1.heap.size]? = some (.cells #[.int .i64 o, .int .i64 k, .int .i64 x] 33 (0, 0)) := by rw [← hWA]; exact heap_alloc_new _ _
    have RA := R1.out.below bA
    have BA : Hid _ := Below.and B1.out bA
    generalize w1.heap.size = M at *
    clear hWA bA R1 B1
    refine (implMapDo_any _ l o k x _ RA (by omega)).mono ?_
    rintro e wB ⟨v5, rfl, oB, bB⟩
    have hDl := doL_length l (o, k, x)
    have STAY : Hid _ := @doL_stays l o k x
    have IS : Hid _ := @doL_is l o k x
    have OTHER : Hid _ := @doL_other l o k x
    generalize hD : doL l (o, k, x) = D at *
    have HD : Hid _ := hD
    have hM : Hid (wB.heap[M]? = some (.cells #[.int .i64 o, .int .i64 k, .int .i64 x] 33 (0, 0))) := by
      show _ = _
      rw [bB.block M (Array.getElem?_eq_some_iff.1 hM0).1]; exact hM0
    have RB : Hid (Row wB v1 l.length (flatP l)) := RA.below bB
    have RD : Hid (Row wB v5 D.length (flatP D)) := Row.of_owns oB
    have BB : Hid (Below w0.heap.size w0 wB) := Below.and BA.out bB
    clear RA oB bB hM0 BA hD
    have S0 := keep3 hM.out (Below.refl _ _).drew
    have T0 := keep3 hM.out (Below.refl _ _)
    go_wp2_with fail
    go_region_held3 (fun w' => w'.cell? ⟨M, 0, none⟩ = some (.int .i64 o) ∧ w'.cell? ⟨M, 1, none⟩ = some (.int .i64 k) ∧ w'.cell? ⟨M, 2, none⟩ = some (.int .i64 x) ∧ Hid (Below wB.heap.size wB w')) (assumption) (first
      | (go_at_call 23; refine (specMapDo_any _ l o k x _ (RB.out.below S0.2.2.2.out) (by omega)).mono ?_; rintro e w9 ⟨v9, rfl, o9, b9⟩; rw [HD.out] at o9; have S9 := keep3 hM.out (Below.and S0.2.2.2.out b9); have R9 : Hid (Row w9 v9 D.length (flatP D)) := Row.of_owns o9; clear o9 b9)
      | (go_at_call 19; refine (samePairs_any _ _ D D _ (RD.out.below S9.2.2.2.out) R9.out).mono ?_; rintro e w10 ⟨rfl, b10⟩; rw [decide_eq_true rfl]; have S10 := keep3 hM.out (Below.and S9.2.2.2.out b10); clear b10)
      | (go_at_call 24; refine (implMapOk_any _ l _ (RB.out.below S10.2.2.2.out)).mono ?_; rintro e w11 ⟨rfl, b11⟩; have S11 := keep3 hM.out (Below.and S10.2.2.2.out b11); clear b11)
      | (go_at_call 25; refine (specMapOk_any _ l _ (RB.out.below S11.2.2.2.out)).mono ?_; rintro e w12 ⟨rfl, b12⟩; have S12 := keep3 hM.out (Below.and S11.2.2.2.out b12); clear b12)
      | (go_at_call 18; refine (implMsgOk_any o k x _).mono ?_; rintro e w13 ⟨rfl, b13⟩; have S13 := keep3 hM.out (Below.and S12.2.2.2.out b13); clear b13)
      | (go_at_call 26; refine (specMsgOk_any o k x _).mono ?_; rintro e w14 ⟨rfl, b14⟩; have S14 := keep3 hM.out (Below.and S13.2.2.2.out b14); clear b14))
    clear S0 T0 S9 S10 S11 S12 S13 R9
    go_wp2_with fail
    refine (specMapOk_any _ l _ (RB.out.below S14.2.2.2.out)).mono ?_
    rintro e w15 ⟨rfl, b15⟩
    have S15 := keep3 hM.out (Below.and S14.2.2.2.out b15)
    clear S14 b15
    cases hmo : mapOkB l
    · have E : Hid (D = l) := STAY.out (.inl hmo)
      go_wp2_with fail
      refine (samePairs_any _ _ D l _ (RD.out.below S15.2.2.2.out) (RB.out.below S15.2.2.2.out)).mono ?_
      rintro e w20 ⟨rfl, b20⟩
      rw [decide_eq_true E.out]
      have FIN : Hid _ := Below.and BB.out (Below.and S15.2.2.2.out b20)
      clear b20
      go_wp2
      go_ret
      exact ⟨rfl, FIN.out⟩
    · go_wp2_with fail
      refine (specMsgOk_any o k x _).mono ?_
      rintro e w16 ⟨rfl, b16⟩
      have S16 := keep3 hM.out (Below.and S15.2.2.2.out b16)
      clear S15 b16
      cases hms : msgOkB o k x
      · have E : Hid (D = l) := STAY.out (.inr (.inl hms))
        go_wp2_with fail
        refine (samePairs_any _ _ D l _ (RD.out.below S16.2.2.2.out) (RB.out.below S16.2.2.2.out)).mono ?_
        rintro e w20 ⟨rfl, b20⟩
        rw [decide_eq_true E.out]
        have FIN : Hid _ := Below.and BB.out (Below.and S16.2.2.2.out b20)
        clear b20
        go_wp2
        go_ret
        exact ⟨rfl, FIN.out⟩
      · by_cases h4 : o = 4
        · subst h4
          have E : Hid (D = l) := STAY.out (.inr (.inr rfl))
          go_wp2_with fail
          refine (samePairs_any _ _ D l _ (RD.out.below S16.2.2.2.out) (RB.out.below S16.2.2.2.out)).mono ?_
          rintro e w20 ⟨rfl, b20⟩
          rw [decide_eq_true E.out]
          have FIN : Hid _ := Below.and BB.out (Below.and S16.2.2.2.out b20)
          clear b20
          go_wp2
          go_ret
          exact ⟨rfl, FIN.out⟩
        · have e4 : (o == 4) = false := by rw [beq_eq_false_iff_ne]; exact h4
          have FO : Hid (Below wB.heap.size wB w16) := S16.2.2.2
          have PUT := IS.out hmo hms
          have IN : Hid _ := msgOkB_in hms
          have MP : Hid _ := (mapOkB_iff l).1 hmo
          have GIN : Hid _ := getP_in MP.out k
          have DOK : Hid (mapOkB D = true) := by
            rw [← HD.out]
            exact (mapOkB_iff _).2 (doL_mapP MP.out _)
          have DIS : Hid (D = doP l (o, k, x)) := by rw [← HD.out]; exact (HD.out).trans PUT
          clear PUT STAY IS
          go_wp2
          clear S16
          go_loopw [6] (fun i wr => ∃ j : Nat, j ≤ 31 ∧ i = .int .i64 j ∧ Hid (Below wB.heap.size wB wr)) (fun i _ => 31 - (intOf i).toNat)
          case atStart => exact ⟨0, Nat.zero_le _, rfl, FO⟩
          case round =>
            obtain ⟨j, hj, rfl, FR⟩ := hrel
            clear FO
            by_cases hlt : j < 31
            · go_wp2_with fail
              refine (implMapGet_any _ D j _ (RD.out.below FR.out)).mono ?_
              rintro e w21 ⟨rfl, b21⟩
              have F21 : Hid _ := Below.and FR.out b21
              clear b21
              go_wp2_with fail
              refine (implMapGet_any _ l j _ (RB.out.below F21.out)).mono ?_
              rintro e w22 ⟨rfl, b22⟩
              have S22 := keep3 hM.out (Below.and F21.out b22)
              clear b22
              by_cases hjk : (j : Int) = k
              · have hb : ((j : Int) != k) = false := by rw [bne_eq_false_iff_eq]; exact hjk
                clear hjk
                go_wp2
                go_roundw
                case rel => exact ⟨j + 1, by omega, by go_num, S22.2.2.2⟩
                case measure => simp [intOf]; omega
              · have hb : ((j : Int) != k) = true := by rw [bne_iff_ne]; exact hjk
                rw [OTHER.out hjk]
                go_wp2
                go_roundw
                case rel => exact ⟨j + 1, by omega, by go_num, S22.2.2.2⟩
                case measure => simp [intOf]; omega
            · have S20 := keep3 hM.out FR.out
              go_wp2_with fail
              refine (implMapGet_any _ D k _ (RD.out.below FR.out)).mono ?_
              rintro e w21 ⟨rfl, b21⟩
              have S21 := keep3 hM.out (Below.and FR.out b21)
              clear b21 S20
              go_wp2_with fail
              refine (implMapGet_any _ l k _ (RB.out.below S21.2.2.2.out)).mono ?_
              rintro e w22 ⟨rfl, b22⟩
              have S22 := keep3 hM.out (Below.and S21.2.2.2.out b22)
              clear b22 S21
              have ho : o = 1 ∨ o = 2 ∨ o = 3 := by have := IN.out.1; omega
              rcases ho with rfl | rfl | rfl
              · have hg : getP D k = (x, true) := by rw [DIS.out]; exact getP_putF_same MP.out.1 k x
                rw [hg]
                go_wp2
                go_ret
                exact ⟨rfl, Below.and BB.out S22.2.2.2.out⟩
              · have hg : getP D k = (0, false) := by rw [DIS.out]; exact getP_delF_same l k
                rw [hg]
                go_wp2
                go_ret
                exact ⟨rfl, Below.and BB.out S22.2.2.2.out⟩
              · have hg : getP D k = (clampI ((getP l k).1 + x), true) := by rw [DIS.out]; exact getP_putF_same MP.out.1 k _
                obtain ⟨hg0, hg1⟩ := GIN.out
                obtain ⟨_, _, hx0, hx1⟩ := IN.out
                rw [hg]
                generalize (getP l k).1 = g at *
                generalize (getP l k).2 = gb at *
                clear hg
                have hcl : (clampI (g + x) == g + x) = true ∨ ((clampI (g + x) == g + x) = false ∧ (clampI (g + x) == 1000000000) = true) ∨ ((clampI (g + x) == g + x) = false ∧ (clampI (g + x) == 1000000000) = false ∧ (clampI (g + x) == -1000000000) = true) := by
                  simp only [beq_iff_eq, beq_eq_false_iff_ne]
                  unfold clampI
                  split
                  · omega
                  · split <;> omega
                generalize clampI (g + x) = c at *
                have FE : Hid _ := S22.2.2.2
                rcases hcl with q1 | ⟨q1, q2⟩ | ⟨q1, q2, q3⟩
                all_goals
                  go_wp2_with fail
                  refine (implMapOk_any _ D _ (RD.out.below FE.out)).mono ?_
                  rintro e w23 ⟨rfl, b23⟩
                  rw [DOK.out]
                  have FIN : Hid _ := Below.and BB.out (Below.and FE.out b23)
                  clear b23
                  go_wp2
                  go_ret
                  exact ⟨rfl, FIN.out⟩
  · have hd : decide (bs.length > 1048576) = true := decide_eq_true (by omega)
    subst hv
    go_enter Try.func4, Try.ntmps4
    go_wp2_with fail
    refine (big_any _ _ _ hle _).mono ?_
    rintro e w0 ⟨rfl, hw0⟩
    subst hw0
    rw [hd]
    go_wp2
    go_ret
    exact ⟨rfl, Below.refl _ _⟩

end Go.Proofs.Ytlapcjbhhonagaa
