/-
  The model's drawing of maps, and of what chapter 1's functions are asked.
-/
import Derived.Test.YtlapcjbhhonagaaDrawD
namespace Go.Proofs.Ytlapcjbhhonagaa
open Go.RowKit

theorem owns_chgC {w w' : World} {base e size n C : Nat} {v : Value} {xs : List Value} (h : w.ownsRow base e size v n xs) (hc : Chg (fun g => g = C) w w') (hC : C < base) : w'.ownsRow base e size v n xs :=
  owns_chg h hc (fun g hg e => by have := (h.lt g hg).1; omega)

set_option maxRecDepth 100000 in
set_option maxHeartbeats 2000000 in
theorem l1DrawMap_any (C : Nat) (most : Int) (w : World) (hc : Cur w C) (hm0 : 0 ≤ most) (hm : most ≤ 1000) :
    Calls Try.prog 69 #[.pointer (some ⟨C, 0, none⟩), .int .i64 most] w fun e w' => ∃ (v : Value) (l : PL), e = .returned v ∧ (l.length : Int) ≤ most ∧ w'.ownsRow w.heap.size 75 2 v l.length (flatP l) ∧ Cur w' C ∧ Chg (fun g => g = C) w w' := by
  have hCw := hc.lt
  have CU : Hid (Cur w C) := hc
  clear hc
  go_enter Try.func69, Try.ntmps69
  go_wp2_with fail
  refine (l1Below_any C (most + 1) _ (CU.out.alloc _) (by omega)).mono ?_
  rintro e w1 ⟨n, rfl, hn0, hn1, _, c1, g1⟩
  have hnm : n ≤ most := by have := hn1 (by omega); omega
  obtain ⟨nn, rfl⟩ := Int.eq_ofNat_of_zero_le hn0
  have O1 : w1.ownsRow w.heap.size 75 2 (.slice (some ⟨w.heap.size, 0, none⟩) 0 0) 0 [] := owns_chgC (empty_own w w.heap.size 75 2 (Nat.le_refl _)) g1 hCw
  have START : Hid _ := And.intro c1 (And.intro (((Chg.refl _ _).alloc _).trans g1 (fun _ _ e => e)) O1)
  clear c1 g1 O1 hn1
  go_wp2
  go_loopw [5, 7] (fun out i wr => ∃ (k : Nat) (l : PL), k ≤ nn ∧ i = .int .i64 k ∧ l.length ≤ k ∧ Asc l ∧ wr.ownsRow w.heap.size 75 2 out l.length (flatP l) ∧ Cur wr C ∧ Chg (fun g => g = C) w wr)
    (fun _ i _ => nn - (intOf i).toNat)
  case atStart => exact ⟨0, [], Nat.zero_le _, rfl, Nat.le_refl _, List.Pairwise.nil, START.out.2.2, START.out.1, START.out.2.1⟩
  case round =>
    obtain ⟨k, l, hk, rfl, hml, hasc, hown, hcur, hch⟩ := hrel
    clear START
    by_cases hlt : k < nn
    · have INFO : Hid _ := And.intro hown (And.intro hcur (And.intro hch hasc))
      clear hown hcur hch hasc
      go_wp2_with fail
      refine (l1DrawKey_any C _ INFO.out.2.1).mono ?_
      rintro e w2 ⟨x, rfl, hx0, hx1, c2, g2⟩
      have I2 : Hid _ := And.intro (owns_chgC INFO.out.1 g2 hCw) (And.intro c2 (INFO.out.2.2.1.trans g2 (fun _ _ e => e)))
      clear c2 g2
      go_wp2_with fail
      refine (l1Below_any C 50 _ I2.out.2.1 (by decide)).mono ?_
      rintro e w3 ⟨y, rfl, hy0, hy1, _, c3, g3⟩
      have hy50 := hy1 (by decide)
      have I3 : Hid _ := And.intro (owns_chgC I2.out.1 g3 hCw) (And.intro c3 (I2.out.2.2.trans g3 (fun _ _ e => e)))
      clear c3 g3 hy1 I2
      go_wp2_with fail
      refine (l1Put_any _ l _ _ _ (Row.of_owns I3.out.1) (by omega) INFO.out.2.2.2).mono ?_
      rintro e w4 ⟨v4, rfl, o4, b4⟩
      have FIN : Hid _ := And.intro (owns_mono o4 I3.out.2.2.size) (And.intro (I3.out.2.1.below b4) (I3.out.2.2.trans (Chg.of_below (F := fun g => g = C) b4) (fun _ _ e => e)))
      have AF : Hid _ := putF_asc INFO.out.2.2.2 x (y - 9)
      have hpl := putF_length l x (y - 9)
      clear o4 b4
      go_wp2
      go_roundw
      case rel => exact ⟨k + 1, putF l x (y - 9), by omega, by go_num, by omega, AF.out, FIN.out.1, FIN.out.2.1, FIN.out.2.2⟩
      case measure => simp [intOf]; omega
    · have FIN : Hid _ := And.intro hown (And.intro hcur hch)
      have hle : (l.length : Int) ≤ most := by omega
      clear hown hcur hch hasc
      go_wp2
      go_ret
      exact ⟨_, l, rfl, hle, FIN.out.1, FIN.out.2.1, FIN.out.2.2⟩

set_option maxRecDepth 100000 in
set_option maxHeartbeats 2000000 in
theorem l1DrawBadMap_any (C : Nat) (w : World) (hc : Cur w C) :
    Calls Try.prog 45 #[.pointer (some ⟨C, 0, none⟩)] w fun e w' => ∃ (v : Value) (l : PL), e = .returned v ∧ l.length ≤ 9 ∧ w'.ownsRow w.heap.size 75 2 v l.length (flatP l) ∧ Cur w' C ∧ Chg (fun g => g = C) w w' := by
  obtain ⟨i0, hi, hz0, hz1, hz2⟩ := info_parts Try.info75
  have hCw := hc.lt
  have CU : Hid (Cur w C) := hc
  clear hc
  go_enter Try.func45, Try.ntmps45
  go_wp2_with fail
  refine (l1DrawMap_any C 8 _ CU.out (by decide) (by decide)).mono ?_
  rintro e w1 ⟨v1, l, rfl, hl, o1, c1, g1⟩
  have I1 : Hid _ := And.intro o1 (And.intro c1 g1)
  clear o1 c1 g1
  go_wp2_with fail
  refine (l1Below_any C 15 _ I1.out.2.1 (by decide)).mono ?_
  rintro e w2 ⟨x, rfl, hx0, hx1, _, c2, g2⟩
  have I2 : Hid _ := And.intro (owns_chgC I1.out.1 g2 hCw) (And.intro c2 (I1.out.2.2.trans g2 (fun _ _ e => e)))
  clear c2 g2 hx1 I1
  have HR : Hid _ := room_of (n := l.length) (bytes := 16) (by omega) (by decide)
  rcases (show x = 0 ∨ x = 1 ∨ (x ≠ 0 ∧ x ≠ 1) by omega) with rfl | rfl | ⟨h0, h1⟩
  · go_wp2_with fail
    refine (l1Below_any C 9 _ I2.out.2.1 (by decide)).mono ?_
    rintro e w3 ⟨y, rfl, hy0, hy1, _, c3, g3⟩
    have O3 := owns_chgC I2.out.1 g3 hCw
    have I3 : Hid _ := And.intro c3 (I2.out.2.2.trans g3 (fun _ _ e => e))
    have hbs : w.heap.size ≤ w3.heap.size := I3.out.2.size
    clear c3 g3 hy1
    go_wp2_with (at_builtin; refine app_one w3 rfl _ _ 26 rfl w.heap.size 75 i0 _ 2 16 Try.underlying26 hi hz0 hz1 hz2 rfl (by decide) v1 _ _ rfl O3 [.int .i64 y, .int .i64 0] rfl rfl (two_one _ _) HR.out.1 HR.out.2 hbs ?_)
    intro v4 w4 ho4 hg4 _
    rw [flatP_snoc] at ho4
    have FIN : Hid _ := And.intro ho4 (And.intro (I3.out.1.chg hg4 (fun g e => by have := (O3.lt g e).1; omega)) (I3.out.2.trans hg4 (fun g hg e => by have := (O3.lt g e).1; omega)))
    clear ho4 hg4 O3
    go_wp2
    go_ret
    exact ⟨_, l ++ [(y, 0)], rfl, by simp; omega, by rw [List.length_append]; exact FIN.out.1, FIN.out.2.1, FIN.out.2.2⟩
  · have hd : C ≠ w2.heap.size := by have := I2.out.2.1.lt; omega
    go_wp2_with fail
    refine (l1PickInt_any C w2.heap.size [1000000000, 1000000001] (by decide) (by decide) _ (I2.out.2.1.alloc _) (heap_alloc_new _ _) (fun e => hd e.symm)).mono ?_
    rintro e w3 ⟨y, rfl, _, c3, g3⟩
    have O3 := owns_chgC (I2.out.1.alloc _) g3 hCw
    have I3 : Hid _ := And.intro c3 ((I2.out.2.2.alloc _).trans g3 (fun _ _ e => e))
    have hbs : w.heap.size ≤ w3.heap.size := I3.out.2.size
    clear c3 g3
    go_wp2_with (at_builtin; refine app_one w3 rfl _ _ 26 rfl w.heap.size 75 i0 _ 2 16 Try.underlying26 hi hz0 hz1 hz2 rfl (by decide) v1 _ _ rfl O3 [.int .i64 999, .int .i64 y] rfl rfl (two_one _ _) HR.out.1 HR.out.2 hbs ?_)
    intro v4 w4 ho4 hg4 _
    rw [flatP_snoc] at ho4
    have FIN : Hid _ := And.intro ho4 (And.intro (I3.out.1.chg hg4 (fun g e => by have := (O3.lt g e).1; omega)) (I3.out.2.trans hg4 (fun g hg e => by have := (O3.lt g e).1; omega)))
    clear ho4 hg4 O3
    go_wp2
    go_ret
    exact ⟨_, l ++ [(999, y)], rfl, by simp; omega, by rw [List.length_append]; exact FIN.out.1, FIN.out.2.1, FIN.out.2.2⟩
  · have e0 : (x == 0) = false := by rw [beq_eq_false_iff_ne]; exact h0
    have e1 : (x == 1) = false := by rw [beq_eq_false_iff_ne]; exact h1
    clear h0 h1
    go_wp2
    go_ret
    exact ⟨_, l, rfl, by omega, I2.out.1, I2.out.2.1, I2.out.2.2⟩

set_option maxRecDepth 100000 in
set_option maxHeartbeats 2000000 in
theorem drawMapAll_any (v : Value) (bs : List Int) (w : World) (hc : Code8 w v bs) (hn : bs.length ≤ 1048576) :
    Calls Try.prog 14 #[v] w fun e w' => ∃ (v1 v2 : Value) (l : PL) (ms : ML), e = .returned (.tuple #[v1, v2]) ∧ l.length ≤ 9 ∧ ms.length ≤ 12 ∧ w'.ownsRow w.heap.size 75 2 v1 l.length (flatP l) ∧ w'.ownsRow w.heap.size 33 3 v2 ms.length (flatM ms) ∧ Below w.heap.size w w' := by
  go_enter Try.func14, Try.ntmps14
  go_wp2_with fail
  refine (l1New_any v bs _ hc hn).mono ?_
  rintro e w1 ⟨rfl, c1, hlt, b1⟩
  have I1 : Hid _ := And.intro c1 b1
  clear c1 b1
  go_wp2_with fail
  refine (l1DrawBadMap_any w.heap.size _ I1.out.1).mono ?_
  rintro e w2 ⟨v1, l, rfl, hl, o2, c2, g2⟩
  have B2 : Below w.heap.size w w2 := I1.out.2.trans (g2.below (fun g _ e => by omega) (by omega))
  have I2 : Hid _ := And.intro o2 (And.intro c2 B2)
  clear o2 c2 g2 B2
  go_wp2_with fail
  refine (l1DrawMsgs_any w.heap.size 12 _ I2.out.2.1 (by decide) (by decide)).mono ?_
  rintro e w3 ⟨v2, ms, rfl, hm, o3, c3, g3⟩
  have B3 : Below w.heap.size w w3 := I2.out.2.2.trans (g3.below (fun g _ e => by omega) (by have := I2.out.2.2.size; omega))
  have FIN : Hid _ := And.intro (owns_mono (owns_chgC I2.out.1 g3 hlt) (Nat.le_of_lt hlt)) (And.intro (owns_mono o3 I2.out.2.2.size) B3)
  clear o3 c3 g3 B3
  go_wp2
  go_ret2
  exact ⟨v1, v2, l, ms, rfl, hl, by omega, FIN.out.1, FIN.out.2.1, FIN.out.2.2⟩

set_option maxRecDepth 100000 in
set_option maxHeartbeats 2000000 in
theorem drawMapGet_any (v : Value) (bs : List Int) (w : World) (hc : Code8 w v bs) (hn : bs.length ≤ 1048576) :
    Calls Try.prog 30 #[v] w fun e w' => ∃ (v1 : Value) (l : PL) (x : Int), e = .returned (.tuple #[v1, .int .i64 x]) ∧ l.length ≤ 9 ∧ w'.ownsRow w.heap.size 75 2 v1 l.length (flatP l) ∧ Below w.heap.size w w' := by
  go_enter Try.func30, Try.ntmps30
  go_wp2_with fail
  refine (l1New_any v bs _ hc hn).mono ?_
  rintro e w1 ⟨rfl, c1, hlt, b1⟩
  have I1 : Hid _ := And.intro c1 b1
  clear c1 b1
  go_wp2_with fail
  refine (l1DrawBadMap_any w.heap.size _ I1.out.1).mono ?_
  rintro e w2 ⟨v1, l, rfl, hl, o2, c2, g2⟩
  have B2 : Below w.heap.size w w2 := I1.out.2.trans (g2.below (fun g _ e => by omega) (by omega))
  have I2 : Hid _ := And.intro o2 (And.intro c2 B2)
  clear o2 c2 g2 B2
  go_wp2_with fail
  refine (l1DrawKey_any w.heap.size _ I2.out.2.1).mono ?_
  rintro e w3 ⟨x, rfl, hx0, hx1, c3, g3⟩
  have B3 : Below w.heap.size w w3 := I2.out.2.2.trans (g3.below (fun g _ e => by omega) (by have := I2.out.2.2.size; omega))
  have FIN : Hid _ := And.intro (owns_mono (owns_chgC I2.out.1 g3 hlt) (Nat.le_of_lt hlt)) B3
  clear c3 g3 B3
  go_wp2
  go_ret2
  exact ⟨v1, l, x, rfl, hl, FIN.out.1, FIN.out.2⟩

set_option maxRecDepth 100000 in
set_option maxHeartbeats 2000000 in
theorem drawShrink_any (v : Value) (bs : List Int) (w : World) (hc : Code8 w v bs) (hn : bs.length ≤ 1048576) :
    Calls Try.prog 13 #[v] w fun e w' => ∃ (v1 : Value) (ms : ML), e = .returned v1 ∧ ms.length ≤ 14 ∧ w'.ownsRow w.heap.size 33 3 v1 ms.length (flatM ms) ∧ Below w.heap.size w w' := by
  go_enter Try.func13, Try.ntmps13
  go_wp2_with fail
  refine (l1New_any v bs _ hc hn).mono ?_
  rintro e w1 ⟨rfl, c1, hlt, b1⟩
  have I1 : Hid _ := And.intro c1 b1
  clear c1 b1
  go_wp2_with fail
  refine (l1DrawMsgs_any w.heap.size 14 _ I1.out.1 (by decide) (by decide)).mono ?_
  rintro e w3 ⟨v2, ms, rfl, hm, o3, c3, g3⟩
  have B3 : Below w.heap.size w w3 := I1.out.2.trans (g3.below (fun g _ e => by omega) (by have := I1.out.2.size; omega))
  have FIN : Hid _ := And.intro (owns_mono o3 I1.out.2.size) B3
  clear o3 c3 g3 B3
  go_wp2
  go_ret
  exact ⟨v2, ms, rfl, by omega, FIN.out.1, FIN.out.2⟩

end Go.Proofs.Ytlapcjbhhonagaa
