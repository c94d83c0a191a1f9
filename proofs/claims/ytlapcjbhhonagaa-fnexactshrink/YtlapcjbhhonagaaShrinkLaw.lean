/-
  The walk of the law FnExactShrink.
-/
import Derived.Test.YtlapcjbhhonagaaImplShrink
import Derived.Test.YtlapcjbhhonagaaSpecShrinkB
import Derived.Test.YtlapcjbhhonagaaMarksM
namespace Go.Proofs.Ytlapcjbhhonagaa
open Go.RowKit

set_option maxRecDepth 100000 in
set_option maxHeartbeats 4000000 in
theorem fnExactShrink_any (vm : Value) (ms : ML) (W0 : World) (hm : Row W0 vm ms.length (flatM ms)) :
    Calls Try.prog 11 #[vm] W0 fun e w' => e = .returned (.bool true) ∧ Below W0.heap.size W0 w' := by
  obtain ⟨a2, b2, off2, cap2, hv2, hcap2, hmax2, _⟩ := hm.msgs
  have hle2 : ms.length ≤ maxLen := Nat.le_trans hcap2 hmax2
  have RM : Hid (Row W0 vm ms.length (flatM ms)) := hm
  clear hm
  rw [hv2] at RM ⊢
  clear hv2
  by_cases hbig2 : ms.length ≤ 1048576
  · have hn : (ms.length : Int) ≤ 1048576 := by omega
    have hDl := shrinkF_length ms
    generalize hdl : shrinkF ms = D at *
    have HD : Hid _ := hdl
    clear hdl
    go_enter Try.func11, Try.ntmps11
    go_wp2_with fail
    refine (szMsgS_any _ _ _ _ hle2 (by omega) (by omega) _).mono ?_
    rintro e w0 ⟨rfl, hw0⟩
    subst hw0
    go_wp2_with fail
    refine (toMsgS_any _ ms _ RM.out hbig2).mono ?_
    rintro e w1 ⟨v1, rfl, o1, b1⟩
    have S1 := Row.of_owns o1
    have B1 : Hid _ := b1
    clear o1 b1
    go_wp2_with fail
    refine (specShrink_any _ ms _ S1 (by omega)).mono ?_
    rintro e w3 ⟨v3, rfl, o3, b3⟩
    rw [HD.out] at o3
    have B3 := Below.and B1.out b3
    have L3 : ∀ g, v3.ownBlock = some g → g < w3.heap.size := fun g hg => (o3.lt g hg).2
    have I3 : Hid _ := And.intro B3 (And.intro (owns_mono (base' := 0) o3 (Nat.zero_le _)) L3)
    clear S1 o3 b3 B3 L3 B1
    go_wp2_with fail
    refine (toMsgS_any _ ms _ (RM.out.below I3.out.1) hbig2).mono ?_
    rintro e w5 ⟨v5, rfl, o5, b5⟩
    have S2 := Row.of_owns o5
    have I5 : Hid _ := And.intro o5 b5
    clear o5 b5
    go_wp2_with fail
    refine (implShrink_any _ ms _ S2 (by omega)).mono ?_
    rintro e w6 ⟨v6, rfl, o6, b6⟩
    rw [HD.out] at o6
    clear S2
    have b36 : Below w3.heap.size w3 w6 := Below.and I5.out.2 b6
    have B6 := Below.and I3.out.1 b36
    have o36 := owns_below I3.out.2.1 b36
    have o56 := owns_below I5.out.1 b6
    have L5 : ∀ g, v5.ownBlock = some g → w3.heap.size ≤ g ∧ g < w5.heap.size := fun g hg => I5.out.1.lt g hg
    have L6 : ∀ g, v6.ownBlock = some g → w5.heap.size ≤ g ∧ g < w6.heap.size := fun g hg => o6.lt g hg
    have O6 := owns_mono (base' := 0) o6 (Nat.zero_le _)
    have hs35 : w3.heap.size ≤ w5.heap.size := I5.out.2.size
    have hs03 := I3.out.1.size
    have R36 := Row.of_owns o36
    have R6 := Row.of_owns O6
    have J : Hid _ := And.intro B6 (And.intro o36 (And.intro (owns_mono (base' := 0) o56 (Nat.zero_le _)) (And.intro O6 (And.intro I3.out.2.2 (And.intro L5 L6)))))
    have J2 : Hid _ := And.intro hs35 hs03
    clear o6 b6 b36 B6 o36 o56 L5 L6 O6 I3 I5 hs35 hs03
    go_wp2_with fail
    refine (eqMsgS_any _ _ D D _ R6 R36).mono ?_
    rintro e w7 ⟨rfl, b7⟩
    have B7 : Hid _ := b7
    clear R6 R36 b7
    go_wp2_with fail
    refine (toMsgS_any _ ms _ (RM.out.below (Below.and J.out.1 B7.out)) hbig2).mono ?_
    rintro e w10 ⟨v10, rfl, o10, b10⟩
    have R10 := Row.of_owns o10
    have B10 : Hid (Below w6.heap.size w6 w10) := Below.and B7.out b10
    have R510 := Row.of_owns (owns_below J.out.2.2.1 B10.out)
    clear o10 b10 B7
    go_wp2_with fail
    refine (eqMsgS_any _ _ ms ms _ R510 R10).mono ?_
    rintro e w11 ⟨rfl, b11⟩
    have B11 : Hid (Below w6.heap.size w6 w11) := Below.and B10.out b11
    have o511 := owns_below J.out.2.2.1 B11.out
    clear R10 R510 b11 B10
    go_wp2_with fail
    refine (markMsgS_any _ ms 1 _ o511 (by omega) (by decide) (by decide)).mono ?_
    rintro e w13 ⟨rfl, o513, c13⟩
    obtain ⟨B6, o36, o56, O6, L3, L5, L6⟩ := J.out
    obtain ⟨hs35, hs03⟩ := J2.out
    have d3 : ∀ g, v3.ownBlock = some g → ¬ v5.ownBlock = some g := fun g h1 h2 => by have := L3 g h1; have := (L5 g h2).1; omega
    have d6 : ∀ g, v6.ownBlock = some g → ¬ v5.ownBlock = some g := fun g h1 h2 => by have := (L6 g h1).1; have := (L5 g h2).2; omega
    have d36 : ∀ g, v3.ownBlock = some g → ¬ v6.ownBlock = some g := fun g h1 h2 => by have := L3 g h1; have := (L6 g h2).1; omega
    have o313 := owns_chg (owns_below o36 B11.out) c13 d3
    have o613 := owns_chg (owns_below O6 B11.out) c13 d6
    have B13 := (Below.and B6 B11.out).trans (c13.below (fun g _ hg => by have := (L5 g hg).1; omega) (Below.and B6 B11.out).size)
    have R313 := Row.of_owns o313
    have R613 := Row.of_owns o613
    have K2 : Hid _ := And.intro B13 (And.intro o313 (And.intro o613 (And.intro d36 (And.intro L6 hs35))))
    have hk0 : ¬ (1 + 3 * (ms.length : Int) < 0) := by omega
    clear B6 o36 o56 O6 L3 L5 L6 d3 d6 d36 o313 o613 B13 o513 c13 o511 J hs35
    go_wp2_with fail
    refine (eqMsgS_any _ _ D D _ R613 R313).mono ?_
    rintro e w14 ⟨rfl, b14⟩
    have o614 := owns_below K2.out.2.2.1 b14
    have K3 : Hid _ := And.intro (Below.and K2.out.1 b14) (owns_below K2.out.2.1 b14)
    clear R613 R313 b14
    go_wp2_with fail
    refine (markMsgS_any _ D 1 _ o614 (by omega) (by decide) (by decide)).mono ?_
    rintro e w15 ⟨rfl, o615, c15⟩
    have o315 := owns_chg K3.out.2 c15 K2.out.2.2.2.1
    have B15 := K3.out.1.trans (c15.below (fun g _ hg => by have := (K2.out.2.2.2.2.1 g hg).1; have := K2.out.2.2.2.2.2; have := hs03; omega) K3.out.1.size)
    have R615 : Row w15 v6 D.length (flatM (marksM 1 D.length)) := Row.of_owns o615
    have M : Hid _ := And.intro B15 (And.intro o315 R615)
    clear o315 B15 o615 c15 o614 K3 K2 J2
    go_wp2_with fail
    refine (heldMsgS_any _ D.length 1 _ R615 (by omega) (by decide) (by decide)).mono ?_
    rintro e w16 ⟨rfl, hw16⟩
    subst hw16
    clear R615
    go_wp2_with fail
    refine (toMsgS_any _ ms _ (RM.out.below M.out.1) hbig2).mono ?_
    rintro e w18 ⟨v18, rfl, o18, b18⟩
    have S2 := Row.of_owns o18
    have I18 : Hid _ := b18
    clear o18 b18
    go_wp2_with fail
    refine (implShrink_any _ ms _ S2 (by omega)).mono ?_
    rintro e w19 ⟨v19, rfl, o19, b19⟩
    rw [HD.out] at o19
    have b1619 := Below.and I18.out b19
    have R19 := Row.of_owns o19
    have R319 := Row.of_owns (owns_below M.out.2.1 b1619)
    have P : Hid _ := b1619
    clear S2 o19 b19 b1619 I18
    go_wp2_with fail
    refine (eqMsgS_any _ _ D D _ R19 R319).mono ?_
    rintro e w20 ⟨rfl, b20⟩
    have b1620 := Below.and P.out b20
    have R620 := M.out.2.2.below b1620
    have P2 : Hid _ := b1620
    clear R19 R319 b20 b1620
    go_wp2_with fail
    refine (heldMsgS_any _ D.length 1 _ R620 (by omega) (by decide) (by decide)).mono ?_
    rintro e w21 ⟨rfl, hw21⟩
    subst hw21
    clear R620
    go_wp2
    go_ret
    exact ⟨rfl, Below.and M.out.1 P2.out⟩
  · have hn : ¬ (ms.length : Int) ≤ 1048576 := by omega
    go_enter Try.func11, Try.ntmps11
    go_wp2_with fail
    refine (szMsgS_any _ _ _ _ hle2 (by omega) (by omega) _).mono ?_
    rintro e w0 ⟨rfl, hw0⟩
    subst hw0
    go_wp2
    go_ret
    exact ⟨rfl, Below.refl _ _⟩

end Go.Proofs.Ytlapcjbhhonagaa
