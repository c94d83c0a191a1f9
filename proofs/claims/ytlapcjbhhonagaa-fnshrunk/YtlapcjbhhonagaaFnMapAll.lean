/-
  The walk of the law FnMapAll.
-/
import Derived.Test.YtlapcjbhhonagaaSame
import Derived.Test.YtlapcjbhhonagaaDrawE
import Derived.Test.YtlapcjbhhonagaaImplAll
import Derived.Test.YtlapcjbhhonagaaSpecAll
import Derived.Test.YtlapcjbhhonagaaMapGet
import Derived.Deep.RegionHeld3
namespace Go.Proofs.Ytlapcjbhhonagaa
open Go.RowKit

theorem allL_parts (l : PL) (ms : ML) (k : Nat) : allL (allL l (ms.take k)) (ms.drop k) = allL l ms := by
  rw [allL, allL, allL, ← List.foldl_append, List.take_append_drop]

theorem Row.len {w : World} {v : Value} {n : Nat} {xs : List Value} (h : Row w v n xs) : ∃ a cap, v = .slice a n cap ∧ n ≤ cap ∧ n ≤ maxLen := by
  obtain ⟨a, b, off, cap, h1, h2, h3, _⟩ := h
  exact ⟨a, cap, h1, h2, Nat.le_trans h2 h3⟩

theorem flatM_take (l : ML) (k : Nat) : flatM (l.take k) = (flatM l).take (k * 3) := by
  induction l generalizing k with
  | nil => simp [flatM]
  | cons m l ih =>
    cases k with
    | zero => simp [flatM]
    | succ k => rw [List.take_succ_cons, flatM_cons, flatM_cons, ih, show (k + 1) * 3 = k * 3 + 1 + 1 + 1 by omega]; simp
theorem flatM_drop (l : ML) (k : Nat) : flatM (l.drop k) = (flatM l).drop (k * 3) := by
  induction l generalizing k with
  | nil => simp [flatM]
  | cons m l ih =>
    cases k with
    | zero => simp [flatM]
    | succ k => rw [List.drop_succ_cons, flatM_cons, ih, show (k + 1) * 3 = k * 3 + 1 + 1 + 1 by omega]; simp

/-- a row of messages cut behind its first k -/
theorem Row.takeM {w : World} {a : Option Addr} {cap : Nat} {l : ML} (h : Row w (.slice a l.length cap) l.length (flatM l)) (k : Nat) (hk : k ≤ l.length) :
    Row w (sliced a 0 k cap 3) (l.take k).length (flatM (l.take k)) := by
  obtain ⟨a', b, off, cap', h1, h2, h3, h4, h5, h6⟩ := h
  simp only [Value.slice.injEq, true_and] at h1
  obtain ⟨rfl, rfl⟩ := h1
  have hlen : (l.take k).length = k := by simp [hk]
  rw [hlen]
  refine ⟨_, b, off, cap, rfl, by omega, h3, fun h0 => ?_, fun j u hj => h5 j u ?_, fun h0 => ?_⟩
  · rw [h4 (by omega), if_neg (by omega)]; simp [Addr.add]
  · rw [flatM_take] at hj
    rw [List.getElem?_take] at hj
    split at hj
    · exact hj
    · cases hj
  · by_cases hc : cap = 0
    · omega
    · rw [if_neg hc] at h0
      cases a with
      | none => exact absurd (h6 rfl) hc
      | some x => simp at h0

theorem Row.takeM' {w : World} {a : Option Addr} {cap : Nat} {l : ML} (h : Row w (.slice a l.length cap) l.length (flatM l)) (k : Nat) (hk : k ≤ l.length) :
    Row w (.slice a k cap) (l.take k).length (flatM (l.take k)) := by
  have := h.takeM k hk
  have e : sliced a 0 k cap 3 = .slice a k cap := by
    unfold sliced
    cases a with
    | none => simp
    | some x => obtain ⟨b, o, s⟩ := x; simp [Addr.add]
  rwa [e] at this

theorem Row.dropM {w : World} {a : Option Addr} {cap : Nat} {l : ML} (h : Row w (.slice a l.length cap) l.length (flatM l)) (k : Nat) (hk : k ≤ l.length) :
    Row w (sliced a k l.length cap 3) (l.drop k).length (flatM (l.drop k)) := by
  obtain ⟨a', b, off, cap', h1, h2, h3, h4, h5, h6⟩ := h
  simp only [Value.slice.injEq, true_and] at h1
  obtain ⟨rfl, rfl⟩ := h1
  have hlen : (l.drop k).length = l.length - k := by simp
  rw [hlen]
  refine ⟨_, b, off + k * 3, cap - k, rfl, by omega, by omega, fun h0 => ?_, fun j u hj => ?_, fun h0 => ?_⟩
  · rw [h4 (by omega), if_neg (by omega)]; simp [Addr.add]
  · rw [flatM_drop, List.getElem?_drop] at hj
    have := h5 _ u hj
    rw [← this, Nat.add_assoc]
  · by_cases hc : cap = k
    · omega
    · rw [if_neg hc] at h0
      cases a with
      | none => have := h6 rfl; omega
      | some x => simp at h0

set_option maxRecDepth 100000 in
set_option maxHeartbeats 1000000 in
theorem fnMapAll_any (v : Value) (bs : List Int) (W0 : World) (hc : Code8 W0 v bs) :
    Calls Try.prog 5 #[v] W0 fun e w' => e = .returned (.bool true) ∧ Below W0.heap.size W0 w' := by
  obtain ⟨a0, cap0, hv, _, hle⟩ := hc.1.len
  by_cases hbig : bs.length ≤ 1048576
  · have hd : decide (bs.length > 1048576) = false := decide_eq_false (by omega)
    have CO : Hid (Code8 W0 v bs) := hc
    clear hc
    subst hv
    go_enter Try.func5, Try.ntmps5
    go_wp2_with fail
    refine (big_any _ _ _ hle _).mono ?_
    rintro e w0 ⟨rfl, hw0⟩
    subst hw0
    rw [hd]
    go_wp2_with fail
    refine (drawMapAll_any _ bs _ CO.out hbig).mono ?_
    rintro e w1 ⟨v1, v2, l, ms, rfl, hl, hm, o1, o2, b1⟩
    have R1 := Row.of_owns o1
    have R2 := Row.of_owns o2
    have I1 : Hid _ := And.intro R1 (And.intro R2 b1)
    clear o1 o2 b1
    go_wp2_with fail
    refine (implMapAll_any _ _ l ms _ R1 R2 (by omega)).mono ?_
    rintro e w2 ⟨v3, rfl, o3, b2⟩
    have hD := allL_length l ms
    have S1 := R1.below b2
    have S2 := R2.below b2
    have I2 : Hid _ := And.intro S1 (And.intro S2 (And.intro (Row.of_owns o3) (Below.and I1.out.2.2 b2)))
    clear R1 R2 o3 b2 I1
    go_wp2_with fail
    refine (specMapAll_any _ _ l ms _ S1 S2 (by omega)).mono ?_
    rintro e w3 ⟨v4, rfl, o4, b3⟩
    have T3 := I2.out.2.2.1.below b3
    have T4 := Row.of_owns o4
    have I3 : Hid _ := And.intro (S1.below b3) (And.intro (S2.below b3) (And.intro T3 (Below.and I2.out.2.2.2 b3)))
    clear S1 S2 I2 o4 b3
    go_wp2_with fail
    refine (samePairs_any _ _ _ _ _ T3 T4).mono ?_
    rintro e w4 ⟨rfl, b4⟩
    have I4 : Hid _ := And.intro (I3.out.1.below b4) (And.intro (I3.out.2.1.below b4) (And.intro (T3.below b4) (Below.and I3.out.2.2.2 b4)))
    rw [decide_eq_true rfl]
    clear T3 T4 I3 b4
    have C4 := CO.out.below I4.out.2.2.2
    obtain ⟨am, capm, rfl, hcm, hmm⟩ := I4.out.2.1.len
    go_wp2_with fail
    refine (at_any _ bs _ C4 hbig 1 (by decide)).mono ?_
    rintro e w5 ⟨⟨x, rfl, hx0, hx1⟩, hw5⟩
    subst hw5
    have hrem0 : 0 ≤ x % ((ms.length : Int) + 1) := Int.emod_nonneg _ (by omega)
    have hrem1 : x % ((ms.length : Int) + 1) < (ms.length : Int) + 1 := Int.emod_lt_of_pos _ (by omega)
    go_wp2_with fail
    refine (drawMapGet_any _ bs _ C4 hbig).mono ?_
    rintro e w6 ⟨v6, l6, x6, rfl, hl6, o6, b6⟩
    have R6 := Row.of_owns o6
    have I6 : Hid _ := And.intro (I4.out.1.below b6) (And.intro (I4.out.2.1.below b6) (And.intro (I4.out.2.2.1.below b6) (Below.and I4.out.2.2.2 b6)))
    clear o6 b6 C4 I4
    go_wp2_with fail
    refine (implMapGet_any _ l6 x6 _ R6).mono ?_
    rintro e w7 ⟨rfl, b7⟩
    have R7 := R6.below b7
    have I7 : Hid _ := And.intro (I6.out.1.below b7) (And.intro (I6.out.2.1.below b7) (And.intro (I6.out.2.2.1.below b7) (Below.and I6.out.2.2.2 b7)))
    clear b7 R6 I6
    go_wp2_with fail
    refine (specMapGet_any _ l6 x6 _ R7).mono ?_
    rintro e w8 ⟨rfl, hw8⟩
    subst hw8
    clear R7
    generalize (getP l6 x6).1 = g1
    generalize (getP l6 x6).2 = g2
    generalize x % ((ms.length : Int) + 1) = kk at *
    obtain ⟨k, rfl⟩ := Int.eq_ofNat_of_zero_le hrem0
    have hk : k ≤ ms.length := by omega
    have hkc : (k : Int) ≤ capm := by omega
    go_wp2_with fail
    have S0 : Hid (Below w8.heap.size w8 w8.drew) := (Below.refl _ _).drew
    have T0 : Hid (Row w8 (.slice am k capm) (ms.take k).length (flatM (ms.take k))) := I7.out.2.1.takeM' k hk
    have hl9 : (ms.take k).length ≤ ms.length := List.length_take_le' _ _
    have hl10 : (ms.drop k).length ≤ ms.length := by simp
    have hl11 := allL_length l (ms.take k)
    have T1 : Hid (Row w8 (sliced am k ms.length capm 3) (ms.drop k).length (flatM (ms.drop k))) := I7.out.2.1.dropM k hk
    have PARTS : Hid _ := allL_parts l ms k
    clear hd hx0 hx1 hrem0 hrem1
    by_cases hck : capm = k
    · subst hck
      replace T1 : Hid (Row w8 (.slice am 0 0) (ms.drop capm).length (flatM (ms.drop capm))) := by
        have := T1.out
        rw [show sliced am capm ms.length capm 3 = .slice am 0 0 by simp [sliced]; omega] at this
        exact this
      go_region_held3 (fun w' => Hid (Below w8.heap.size w8 w')) (assumption) (first
        | (go_at_call 19; refine (samePairs_any _ _ _ (allL l ms) _ R10.out (I7.out.2.2.1.below S10.out)).mono ?_; rintro e w11 ⟨rfl, b11⟩; rw [PARTS.out, decide_eq_true rfl]; have S11 : Hid (Below w8.heap.size w8 w11) := Below.and S10.out b11; clear b11)
        | (have _ := S9; go_at_call 20; refine (implMapAll_any v9 _ (allL l (ms.take capm)) (ms.drop capm) _ R9.out (T1.out.below S9.out) (by omega)).mono ?_; rintro e w10 ⟨v10, rfl, o10, b10⟩; have S10 : Hid (Below w8.heap.size w8 w10) := Below.and S9.out b10; have R10 : Hid _ := Row.of_owns o10; clear o10 b10)
        | (go_at_call 20; refine (implMapAll_any v1 _ l (ms.take capm) _ (I7.out.1.below S0.out) (T0.out.below S0.out) (by omega)).mono ?_; rintro e w9 ⟨v9, rfl, o9, b9⟩; have S9 : Hid (Below w8.heap.size w8 w9) := Below.and S0.out b9; have R9 : Hid _ := Row.of_owns o9; clear o9 b9))
      go_wp2
      go_ret
      exact ⟨rfl, Below.and I7.out.2.2.2 S11.out⟩
    · replace T1 : Hid (Row w8 (.slice (Option.map (fun x => x.add (k * 3)) am) (ms.length - k) (capm - k)) (ms.drop k).length (flatM (ms.drop k))) := by
        have := T1.out
        rw [show sliced am k ms.length capm 3 = .slice (Option.map (fun x => x.add (k * 3)) am) (ms.length - k) (capm - k) by simp [sliced, hck]] at this
        exact this
      go_region_held3 (fun w' => Hid (Below w8.heap.size w8 w')) (assumption) (first
        | (go_at_call 19; refine (samePairs_any _ _ _ (allL l ms) _ R10.out (I7.out.2.2.1.below S10.out)).mono ?_; rintro e w11 ⟨rfl, b11⟩; rw [PARTS.out, decide_eq_true rfl]; have S11 : Hid (Below w8.heap.size w8 w11) := Below.and S10.out b11; clear b11)
        | (have _ := S9; go_at_call 20; refine (implMapAll_any v9 _ (allL l (ms.take k)) (ms.drop k) _ R9.out (T1.out.below S9.out) (by omega)).mono ?_; rintro e w10 ⟨v10, rfl, o10, b10⟩; have S10 : Hid (Below w8.heap.size w8 w10) := Below.and S9.out b10; have R10 : Hid _ := Row.of_owns o10; clear o10 b10)
        | (go_at_call 20; refine (implMapAll_any v1 _ l (ms.take k) _ (I7.out.1.below S0.out) (T0.out.below S0.out) (by omega)).mono ?_; rintro e w9 ⟨v9, rfl, o9, b9⟩; have S9 : Hid (Below w8.heap.size w8 w9) := Below.and S0.out b9; have R9 : Hid _ := Row.of_owns o9; clear o9 b9))
      go_wp2
      go_ret
      exact ⟨rfl, Below.and I7.out.2.2.2 S11.out⟩
  · have hd : decide (bs.length > 1048576) = true := decide_eq_true (by omega)
    subst hv
    go_enter Try.func5, Try.ntmps5
    go_wp2_with fail
    refine (big_any _ _ _ hle _).mono ?_
    rintro e w0 ⟨rfl, hw0⟩
    subst hw0
    rw [hd]
    go_wp2
    go_ret
    exact ⟨rfl, Below.refl _ _⟩

end Go.Proofs.Ytlapcjbhhonagaa
