/-
  The walk of the law FnLogTerms.
-/
import Derived.Test.YteegcblndbljlaaDrawLj
import Derived.Test.YteegcblndbljlaaLogOkM
import Derived.Test.YteegcblndbljlaaLogOkI
import Derived.Test.YteegcblndbljlaaBig
namespace Go.Proofs.Yteegcblndbljlaa
open Go.RowKit

set_option maxRecDepth 100000 in
set_option maxHeartbeats 4000000 in
theorem fnLogTerms_any (v : Value) (bs : List Int) (w : World) (hc : Code8 w v bs) :
    Calls Try.prog 5 #[v] w fun e w' => e = .returned (.bool true) ∧ Below w.heap.size w w' := by
  obtain ⟨a0, b0, off0, cap0, hv, hcap0, hmax0, -⟩ := id hc.1
  have hn0 : bs.length ≤ maxLen := by omega
  have HC : Hid (Code8 w v bs) := hc
  subst hv
  clear hc
  by_cases hbig : bs.length > 1048576
  · have hd : decide (bs.length > 1048576) = true := decide_eq_true hbig
    go_enter Try.func5, Try.ntmps5
    go_wp2_with fail
    refine (big_any a0 bs.length cap0 hn0 w).mono ?_
    rintro e w1 ⟨rfl, rfl⟩
    rw [hd]
    go_wp2
    go_ret
    exact ⟨rfl, Below.refl _ _⟩
  · have hd : decide (bs.length > 1048576) = false := decide_eq_false hbig
    go_enter Try.func5, Try.ntmps5
    go_wp2_with fail
    refine (big_any a0 bs.length cap0 hn0 w).mono ?_
    rintro e w1 ⟨rfl, hw1⟩
    subst hw1
    rw [hd]
    clear hd
    go_wp2_with fail
    refine (DrawTermAt_any _ bs w1 HC.out (by omega)).mono ?_
    rintro e w2 ⟨b, bt, ax, n, qx, l, i, rfl, hb0, hb1, ht0, ht1, hl, hn8, hi, o2, b2⟩
    have HL : Hid (l.length = n) := hl
    have HI : Hid (I64 b ∧ I64 i) := ⟨⟨by omega, by omega⟩, hi⟩
    have bn := bel_nw w2 (.cells #[.int .i64 b, .int .i64 bt, .slice ax n qx] 26)
    have BW : Hid (Below w1.heap.size w1 (w2.alloc (.cells #[.int .i64 b, .int .i64 bt, .slice ax n qx] 26))) := Below.and b2 bn
    have NX : Hid (MBox 26 (w2.alloc (.cells #[.int .i64 b, .int .i64 bt, .slice ax n qx] 26)) w2.heap.size #[.int .i64 b, .int .i64 bt, .slice ax n qx]) := MBox.start _ _ _
    have RR : Hid (Row (w2.alloc (.cells #[.int .i64 b, .int .i64 bt, .slice ax n qx] 26)) (.slice ax n qx) l.length (flatE l)) := by
      show Row _ _ _ _
      rw [hl]
      exact (OwnE.rowE o2).below bn
    have cX := NX.out.cells
    clear b2 bn o2 hi hl
    have hlast : logOkB b bt l = true → lastN b l = b + n := fun h => by rw [ok_last h, HL.out]
    have hparts : logOkB b bt l = true → 0 ≤ b ∧ b + (n : Int) ≤ 100000 := fun h => by have := logOk_parts h; rw [HL.out] at this; exact ⟨this.1, this.2.1⟩
    have hterm : logOkB b bt l = true → 0 ≤ termB b bt l i → b ≤ i ∧ i ≤ b + n ∧ bt ≤ termB b bt l i ∧ termB b bt l i ≤ prevT bt l n := fun h h0 => by have := term_in h h0; rw [HL.out] at this; exact this
    have hents : b < i → i ≤ b + n + 1 → ((entsB b l i).length : Int) = b + n - i + 1 := fun h1 h2 => by have := ents_len (l := l) h1 (by rw [HL.out]; exact h2); rw [HL.out] at this; exact this
    have MA : Hid _ := And.intro hlast (And.intro hparts (And.intro hterm hents))
    clear hlast hparts hterm hents
    go_wp2_with fail
    generalize w2.alloc (.cells #[.int .i64 b, .int .i64 bt, .slice ax n qx] 26) = W2 at *
    generalize w2.heap.size = X at *
    clear cX
    have CTI : Hid (∀ u, Below W2.heap.size W2 u → Calls Try.prog 20 #[lgV b bt (.slice ax n qx), .int .i64 i] u fun e w' => e = .returned (.int .i64 (termB b bt l i)) ∧ Below u.heap.size u w') := fun u hu => implTermAt_any b bt _ l i u (RR.out.below hu) HI.out.1 HI.out.2
    have CTS : Hid (∀ u, Below W2.heap.size W2 u → Calls Try.prog 28 #[lgV b bt (.slice ax n qx), .int .i64 i] u fun e w' => e = .returned (.int .i64 (termB b bt l i)) ∧ Below u.heap.size u w') := fun u hu => specTermAt_any b bt _ l i u (RR.out.below hu) HI.out.1 HI.out.2
    have CLI : Hid (∀ u, Below W2.heap.size W2 u → Calls Try.prog 24 #[lgV b bt (.slice ax n qx)] u fun e w' => e = .returned (.tuple #[.int .i64 (lastN b l), .int .i64 (prevT bt l n)]) ∧ Below u.heap.size u w') := fun u hu => by have := implLastOf_any b bt _ l u (RR.out.below hu); unfold lastV at this; rw [HL.out] at this; exact this
    have CLS : Hid (∀ u, Below W2.heap.size W2 u → Calls Try.prog 30 #[lgV b bt (.slice ax n qx)] u fun e w' => e = .returned (.tuple #[.int .i64 (lastN b l), .int .i64 (prevT bt l n)]) ∧ Below u.heap.size u w') := fun u hu => by have := specLastOf_any b bt _ l u (RR.out.below hu); unfold lastV at this; rw [HL.out] at this; exact this
    have COI : Hid (∀ u, Below W2.heap.size W2 u → Calls Try.prog 18 #[lgV b bt (.slice ax n qx)] u fun e w' => e = .returned (.bool (logOkB b bt l)) ∧ Below u.heap.size u w') := fun u hu => implLogOk_any b bt _ l u (RR.out.below hu) (by rw [HL.out]; omega)
    have COS : Hid (∀ u, Below W2.heap.size W2 u → Calls Try.prog 19 #[lgV b bt (.slice ax n qx)] u fun e w' => e = .returned (.bool (logOkB b bt l)) ∧ Below u.heap.size u w') := fun u hu => specLogOk_any b bt _ l u (RR.out.below hu) (by rw [HL.out]; omega)
    have CEI : Hid (∀ u, Below W2.heap.size W2 u → Calls Try.prog 26 #[lgV b bt (.slice ax n qx), .int .i64 i] u fun e w' => ∃ v', e = .returned v' ∧ w'.ownsRow u.heap.size 39 6 v' (entsB b l i).length (flatE (entsB b l i)) ∧ Below u.heap.size u w') := fun u hu => implEntriesFrom_any b bt _ l i u (RR.out.below hu) HI.out.1 HI.out.2 (by rw [HL.out]; omega)
    have hen8 : (entsB b l i).length ≤ 8 := by have := entsB_len b l i; have := HL.out; omega
    generalize termB b bt l i = t at *
    generalize lastN b l = la at *
    generalize prevT bt l n = lt at *
    generalize logOkB b bt l = ok at *
    generalize entsB b l i = E at *
    generalize hel : E.length = el at *
    have HEL : Hid _ := hel
    clear hel RR HI HC
    have SL : Hid (Below W2.heap.size W2 W2) := Below.refl _ _
    refine (CTI.out _ SL.out).mono ?_
    rintro e w3 ⟨rfl, b3⟩
    replace SL : Hid (Below W2.heap.size W2 w3) := b3
    clear b3
    have cX := (NX.out.step SL.out).cells
    go_wp2_with fail
    refine (CLI.out _ SL.out).mono ?_
    rintro e w4 ⟨rfl, b3⟩
    replace SL : Hid (Below W2.heap.size W2 w4) := Below.and SL.out b3
    clear b3 cX
    have cX := (NX.out.step SL.out).cells
    go_wp2_with fail
    refine (CLS.out _ SL.out).mono ?_
    rintro e w5 ⟨rfl, b3⟩
    replace SL : Hid (Below W2.heap.size W2 w5) := Below.and SL.out b3
    clear b3 cX
    have cX := (NX.out.step SL.out).cells
    go_wp2_with fail
    refine (CTS.out _ SL.out).mono ?_
    rintro e w6 ⟨rfl, b3⟩
    replace SL : Hid (Below W2.heap.size W2 w6) := Below.and SL.out b3
    clear b3 cX
    have cX := (NX.out.step SL.out).cells
    go_wp2_with fail
    refine (COS.out _ SL.out).mono ?_
    rintro e w7 ⟨rfl, b3⟩
    replace SL : Hid (Below W2.heap.size W2 w7) := Below.and SL.out b3
    clear b3 cX
    have cX := (NX.out.step SL.out).cells
    cases ok with
    | false =>
      go_wp2_with fail
      refine (COI.out _ SL.out).mono ?_
      rintro e w8 ⟨rfl, b3⟩
      replace SL : Hid (Below W2.heap.size W2 w8) := Below.and SL.out b3
      clear b3 cX
      go_wp2
      go_ret
      exact ⟨rfl, Below.and BW.out SL.out⟩
    | true =>
      have hla := MA.out.1 rfl
      have hp := MA.out.2.1 rfl
      have hla0 : la ≤ 100000 := by omega
      have hla1 : b ≤ la := by omega
      have hla2 : 0 ≤ b := hp.1
      have hcond : ¬ 0 ≤ t ∨ (0 ≤ t ∧ ¬ i < b ∧ ¬ la < i ∧ ¬ t < bt ∧ ¬ lt < t) := by
        by_cases h0 : 0 ≤ t
        · have := MA.out.2.2.1 rfl h0; right; exact ⟨h0, by omega, by omega, by omega, by omega⟩
        · exact .inl h0
      have hents : b < i → i ≤ la + 1 → (el : Int) = la - i + 1 := fun h1 h2 => by have := MA.out.2.2.2 h1 (by omega); rw [hla]; exact this
      have HE : Hid _ := hents
      clear hents hla hp MA
      have REST : ∀ u, Below W2.heap.size W2 u → True := fun _ _ => trivial
      clear REST
      rcases hcond with h0 | ⟨h0, h1, h2, h3, h4⟩
      all_goals
        go_wp2_with fail
        refine (CEI.out _ SL.out).mono ?_
        rintro e w8 ⟨v8, rfl, o8, b3⟩
        obtain ⟨a8, q8, hv8⟩ := owns_val o8
        subst hv8
        replace SL : Hid (Below W2.heap.size W2 w8) := Below.and SL.out b3
        clear b3 cX o8
        have cX := (NX.out.step SL.out).cells
        by_cases k1 : i ≤ b
        · go_wp2
          go_ret
          exact ⟨rfl, Below.and BW.out SL.out⟩
        · by_cases k2 : la + 1 < i
          · first
              | (exfalso; omega)
              | (go_wp2
                 go_ret
                 exact ⟨rfl, Below.and BW.out SL.out⟩)
          · have k3 := HE.out (by omega) (by omega)
            have k4 : ((el : Int) == la - i + 1) = true := by rw [k3]; simp
            clear k3
            go_wp2
            go_ret
            exact ⟨rfl, Below.and BW.out SL.out⟩

end Go.Proofs.Yteegcblndbljlaa
