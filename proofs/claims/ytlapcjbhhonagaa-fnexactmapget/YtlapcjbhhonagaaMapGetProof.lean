/-
  For every list of pairs and every number the law FnExactMapGet returns true: MapGet answers as the model does and leaves its argument as it was; no condition.
-/
import Derived.Test.YtlapcjbhhonagaaMapGet
import Derived.Test.YtlapcjbhhonagaaArgs
namespace Go.Proofs.Ytlapcjbhhonagaa
open Go.ChangeShapes Go.WideShapes Go.ChangeAt Go.RowKit

set_option maxHeartbeats 1000000 in
theorem fnExactMapGet_any (v : Value) (l : List (Int × Int)) (x : Int) (w : World) (h : Row w v l.length (flatP l)) :
    Calls Try.prog 8 #[v, .int .i64 x] w fun e w' => e = .returned (.bool true) ∧ Below w.heap.size w w' := by
  obtain ⟨a, b, off, cap, hv, hcap, hmax, _⟩ := h.pairs
  have hle : l.length ≤ maxLen := Nat.le_trans hcap hmax
  by_cases hbig : l.length ≤ 1048576
  · have hn : (l.length : Int) ≤ 1048576 := by omega
    have RW : Hid (Row w v l.length (flatP l)) := h
    clear h
    rw [hv] at RW ⊢
    go_enter Try.func8, Try.ntmps8
    go_wp2_with fail
    refine (szPairS_any _ _ _ _ hle (by omega) (by omega) _).mono ?_
    rintro e w0 ⟨rfl, rfl⟩
    have R0 := RW.out
    go_wp2_with fail
    refine (toPairS_any _ l _ R0 hbig).mono ?_
    rintro e w1 ⟨v1, rfl, o1, b1⟩
    have R1 := Row.of_owns o1
    go_wp2_with fail
    refine (specMapGet_any _ l _ _ R1).mono ?_
    rintro e w2 ⟨rfl, rfl⟩
    clear R1 o1
    generalize hq1 : (getP l x).1 = q1
    generalize hq2 : (getP l x).2 = q2
    have HQ : Hid (getP l x = (q1, q2)) := Prod.ext hq1 hq2
    clear hq1 hq2
    go_wp2_with fail
    refine (toPairS_any _ l _ (R0.below b1) hbig).mono ?_
    rintro e w3 ⟨v3, rfl, o3, b3⟩
    have B3 := Below.and b1 b3
    clear b1 b3
    have R3 := Row.of_owns o3
    go_wp2_with fail
    refine (implMapGet_any _ l _ _ R3).mono ?_
    rw [HQ.out]
    rintro e w4 ⟨rfl, b4⟩
    have B4 := Below.and B3 b4
    have R4 := R3.below b4
    clear B3 b4 R3 o3
    go_wp2_with fail
    refine (toPairS_any _ l _ (R0.below B4) hbig).mono ?_
    rintro e w5 ⟨v5, rfl, o5, b5⟩
    have B5 := Below.and B4 b5
    have R5 := Row.of_owns o5
    have R6 := R4.below b5
    clear B4 b5 R4
    go_wp2_with fail
    refine (eqPairS_any _ _ l l _ R6 R5).mono ?_
    rintro e w6 ⟨rfl, b6⟩
    have B6 := Below.and B5 b6
    go_wp2
    go_ret
    exact ⟨rfl, B6⟩
  · have hn : ¬ (l.length : Int) ≤ 1048576 := by omega
    rw [hv]
    go_enter Try.func8, Try.ntmps8
    go_wp2_with fail
    refine (szPairS_any _ _ _ _ hle (by omega) (by omega) _).mono ?_
    rintro e w0 ⟨rfl, rfl⟩
    go_wp2
    go_ret
    exact ⟨rfl, Below.refl _ _⟩

set_option maxRecDepth 100000 in
theorem mapGet_lifted (os : Os) (started : os.Started) (H : Type) (enc : TypeId × Value → H) :
    ReturnsInHanded {} Try.checked os 8 .any (Rows.fnExactMapGetSpec.pre6 enc Try.prog Try.f8 Rows.fnExactMapGetRow.domain false) (Rows.fnExactMapGetSpec.post enc Try.prog Try.f8 false true false false) := by
  refine returnsInHanded_of_change (C := Try.checked) Try.own started (by kernel_rfl) Try.func8
    (ChangeSpec.witness6 (enc := enc) (C := Try.checked) false ⟨#[], #[.slice none 0 0, .int .i64 0], []⟩ 8 (by kernel_rfl) (by kernel_rfl) (by kernel_rfl) (by kernel_rfl)) ?_
  intro W base args ds gs before hval0 hW _ _
  have hval : ∀ (j : Nat) t v, Try.f8.params[j]? = some t → args[j]? = some v → Value.okWide Try.prog W .any base t v := hval0
  have hW' := hW
  obtain ⟨p, q, hA0, hV, rfl, _, _⟩ := hW
  have hA : DataW.TrodAll enc Try.prog W 0 (fun _ => true) true Try.f8.params.toList args.toList ds p := hA0
  rw [Try.params8] at hA hval
  obtain ⟨v0, v1, d0, d1, p0, p1, rfl, rfl, rfl, h0, h1⟩ := trodAll_two hA
  obtain ⟨rfl, rfl⟩ := trodVars_none hV
  have lt0 : ∀ x ∈ p0, x.block < W.heap.size := fun x hx => hW'.lt x (by simp [hx])
  have lt1 : ∀ x ∈ p1, x.block < W.heap.size := fun x hx => hW'.lt x (by simp [hx])
  obtain ⟨l, hl⟩ := arg_pairs (hval 0 48 v0 rfl rfl) h0
  have k1 := h1
  obtain ⟨x, rfl, rfl, rfl, wx⟩ := open_int Try.underlying3 (hval 1 3 v1 rfl rfl) h1
  clear hA0 hval0
  refine (fnExactMapGet_any v0 l x W hl).mono fun e W' ⟨he, bel⟩ => ?_
  subst he
  exact ⟨_, rfl, _, _, _, [], _, [], hW', trodAll_mk1 (shut_bool Try.underlying4 _), trodAll_mk2 (Below.trod Try.laidOut (by kernel_rfl) (of_decide_eq_true (by kernel_rfl)) h0 bel lt0) (Below.trod Try.laidOut (by kernel_rfl) (of_decide_eq_true (by kernel_rfl)) k1 bel lt1), rfl, bel.frame _, fun h => by cases h⟩

theorem fnExactMapGet_holds : Rows.FnExactMapGetSaid :=
  OpenClaim.holds_of_wide 8 Try.f8 rfl rfl rfl rfl rfl rfl rfl ⟨rfl, rfl, rfl, rfl, rfl⟩ rfl rfl rfl rfl rfl (by kernel_rfl) Try.func8 (by kernel_rfl)
    (of_decide_eq_true (by kernel_rfl)) (by unfold Func.isWrapper; rw [if_neg (of_decide_eq_false (by kernel_rfl))]; exact ⟨rfl, rfl⟩)
    (fun os started H enc _ => mapGet_lifted os started H enc)

end Go.Proofs.Ytlapcjbhhonagaa
