/-
  For every number the law FnExactPutNum returns true: PutNum answers as the model does, and its answer is memory of its own, behind another call too; no condition.
-/
import Derived.Test.YtacphglflhfkbaaPutNum
import Derived.Test.YtacphglflhfkbaaRows
import Derived.ProofKit
namespace Go.Proofs.Ytacphglflhfkbaa
open Go.ChangeShapes Go.WideShapes Go.ChangeAt Go.RowKit

theorem Try.own : ownKnob Try.prog.godebug = none := by kernel_rfl
theorem Try.laidOut : laidOutB Try.prog = true := by kernel_rfl
theorem OwnB.below {base : Nat} {w w' : World} {v : Value} {l : List Int} (h : OwnB base w v l) (hb : Below w.heap.size w w') : OwnB base w' v l := owns_below h hb
theorem OwnB.row {base : Nat} {w : World} {v : Value} {l : List Int} (h : OwnB base w v l) : Row w v l.length (flatB l) := Row.of_owns h
theorem OwnB.zero {base : Nat} {w : World} {v : Value} {l : List Int} (h : OwnB base w v l) : OwnB 0 w v l := owns_mono h (Nat.zero_le _)

set_option maxRecDepth 100000 in
set_option maxHeartbeats 4000000 in
theorem fnExactPutNum_any (x : Int) (w : World) :
    Calls Try.prog 3 #[.int .i64 x] w fun e w' => e = .returned (.bool true) ∧ Below w.heap.size w w' := by
  have hlen : Hid _ := putN_length x
  generalize hP : putN x = P
  have HP : Hid _ := hP
  have hPl : P.length ≤ 5 := by rw [← hP]; exact hlen.out
  clear hP hlen
  go_enter Try.func3, Try.ntmps3
  go_wp2_with fail
  refine (specPutNum_any x w).mono ?_
  rintro e w1 ⟨v1, rfl, o1, b1⟩
  rw [HP.out] at o1
  have I1 : Hid _ := And.intro o1 b1
  clear o1 b1
  go_wp2_with fail
  refine (implPutNum_any x w1).mono ?_
  rintro e w2 ⟨v2, rfl, o2, b2⟩
  rw [HP.out] at o2
  have R1 := (I1.out.1.below b2).row
  have R2 := o2.row
  have I2 : Hid _ := And.intro o2 b2
  clear o2 b2
  go_wp2_with fail
  refine (eqByteS_any _ _ P P _ R2 R1).mono ?_
  rintro e w3 ⟨rfl, b3⟩
  clear R1 R2
  have O23 := (I2.out.1.below b3).zero
  have I3 : Hid _ := b3
  clear b3
  go_wp2_with fail
  refine (markByteS_any _ P 1 _ O23 (by omega) (by decide) (by decide)).mono ?_
  rintro e w4 ⟨rfl, o4, c4⟩
  have d1 : ∀ g, v1.ownBlock = some g → ¬ v2.ownBlock = some g := fun g h1 h2 => by
    have := (I1.out.1.lt g h1).2; have := (I2.out.1.lt g h2).1; omega
  have O14 : OwnB 0 w4 v1 P := owns_chg ((I1.out.1.below (Below.and I2.out.2 I3.out)).zero) c4 d1
  have B4 : Below w.heap.size w w4 := (Below.and I1.out.2 (Below.and I2.out.2 I3.out)).trans (c4.below (fun g _ hg => by have := (I2.out.1.lt g hg).1; have := I1.out.2.size; omega) (by have := (Below.and I1.out.2 (Below.and I2.out.2 I3.out)).size; omega))
  have R4 : Row w4 v2 P.length (flatB (marksB 1 P.length)) := Row.of_owns o4
  have I4 : Hid _ := And.intro O14 (And.intro B4 R4)
  clear O23 o4 c4 d1 O14 B4
  go_wp2_with fail
  refine (heldByteS_any _ P.length 1 _ R4 (by omega) (by decide) (by decide)).mono ?_
  rintro e w5 ⟨rfl, hw5⟩
  subst hw5
  clear R4
  go_wp2_with fail
  refine (implPutNum_any x _).mono ?_
  rintro e w6 ⟨v6, rfl, o6, b6⟩
  rw [HP.out] at o6
  have R1 := (I4.out.1.below b6).row
  have R6 := o6.row
  have I6 : Hid _ := b6
  clear o6 b6
  go_wp2_with fail
  refine (eqByteS_any _ _ P P _ R6 R1).mono ?_
  rintro e w7 ⟨rfl, b7⟩
  clear R1 R6
  have B7 := Below.and I6.out b7
  have R7 := I4.out.2.2.below B7
  have I7 : Hid _ := B7
  clear B7 b7
  go_wp2_with fail
  refine (heldByteS_any _ P.length 1 _ R7 (by omega) (by decide) (by decide)).mono ?_
  rintro e w8 ⟨rfl, hw8⟩
  subst hw8
  clear R7
  go_wp2
  go_ret
  exact ⟨rfl, Below.and I4.out.2.1 I7.out⟩

set_option maxRecDepth 100000 in
theorem fnExactPutNum_lifted (os : Os) (started : os.Started) (H : Type) (enc : TypeId × Value → H) :
    ReturnsInHanded {} Try.checked os 3 .any (Rows.fnExactPutNumSpec.pre6 enc Try.prog Try.f3 Rows.fnExactPutNumRow.domain false) (Rows.fnExactPutNumSpec.post enc Try.prog Try.f3 false true false false) := by
  refine returnsInHanded_of_change (C := Try.checked) Try.own started (by kernel_rfl) Try.func3
    (ChangeSpec.witness6 (enc := enc) (C := Try.checked) false ⟨#[], #[.int .i64 0], []⟩ 8 (by kernel_rfl) (by kernel_rfl) (by kernel_rfl) (by kernel_rfl)) ?_
  intro W base args ds gs before hval0 hW _ _
  have hW' := hW
  obtain ⟨p, q, hA0, hV, rfl, _, _⟩ := hW
  have hA : DataW.TrodAll enc Try.prog W 0 (fun _ => true) true Try.f3.params.toList args.toList ds p := hA0
  rw [Try.params3] at hA
  obtain ⟨v0, d0, rfl, rfl, h0⟩ := trodAll_one hA
  obtain ⟨rfl, rfl⟩ := trodVars_none hV
  have lt0 : ∀ x ∈ p, x.block < W.heap.size := fun x hx => hW'.lt x (by simp [hx])
  have hval : Value.okWide Try.prog W .any base 3 v0 := hval0 0 3 v0 (by rw [Try.params3]; rfl) rfl
  have k0 := h0
  obtain ⟨x0, rfl⟩ := okWide_int Try.underlying3 hval
  clear hA0 hval0 hval
  refine (fnExactPutNum_any x0 W).mono fun e W' ⟨he, bel⟩ => ?_
  subst he
  exact ⟨_, rfl, _, _, _, [], _, [], hW', trodAll_mk1 (shut_bool Try.underlying4 _), trodAll_mk1 (Below.trod Try.laidOut (by kernel_rfl) (of_decide_eq_true (by kernel_rfl)) k0 bel lt0), rfl, bel.frame _, fun h => by cases h⟩

theorem fnExactPutNum_holds : Rows.FnExactPutNumSaid :=
  OpenClaim.holds_of_wide 3 Try.f3 rfl rfl rfl rfl rfl rfl rfl ⟨rfl, rfl, rfl, rfl, rfl⟩ rfl rfl rfl rfl rfl (by kernel_rfl) Try.func3 (by kernel_rfl)
    (of_decide_eq_true (by kernel_rfl)) (by unfold Func.isWrapper; rw [if_neg (of_decide_eq_false (by kernel_rfl))]; exact ⟨rfl, rfl⟩)
    (fun os started H enc _ => fnExactPutNum_lifted os started H enc)

end Go.Proofs.Ytacphglflhfkbaa
