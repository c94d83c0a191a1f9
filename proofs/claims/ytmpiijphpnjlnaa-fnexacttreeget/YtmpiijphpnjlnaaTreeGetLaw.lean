/-
  The walk of the law FnExactTreeGet.
-/
import Derived.Test.YtmpiijphpnjlnaaQTop
import Derived.Test.YtmpiijphpnjlnaaTreeSz
import Derived.Test.YtmpiijphpnjlnaaTreeEq
namespace Go.Proofs.Ytmpiijphpnjlnaa
open Go.RowKit

set_option maxHeartbeats 4000000 in
theorem fnExactTreeGet_any (n : Nat) (x : TV) (T : Tr) (x0 : Int) (w : World) (ht : TreeAt n w x T) :
    Calls Try.prog 5 #[x.val, .int .i64 x0] w fun e w' => e = .returned (.bool true) ∧ Below w.heap.size w w' := by
  have TT : Hid (TreeAt n w x T) := ht
  clear ht
  obtain ⟨lf, p, c, k, b⟩ := x
  have B0 : Hid (Below w.heap.size w (w.alloc (.cells #[.bool lf, p, c, k, b] 41))) := bel_new w _
  have S0 : Hid (BoxAt 41 (w.alloc (.cells #[.bool lf, p, c, k, b] 41)) w.heap.size #[.bool lf, p, c, k, b]) := BoxAt.start 41 w _
  by_cases hbig : sizeT n T ≤ 1048576
  · have SZ : Hid (∀ w0, Below w.heap.size w w0 → Calls Try.prog 17 #[.agg #[.bool lf, p, c, k, b], .int .i64 1048576] w0 fun e w' => e = .returned (.int .i64 (1048576 - (sizeT n T : Nat))) ∧ Below w0.heap.size w0 w') := fun w0 hb => by
      have h1 := szTree_any n ⟨lf, p, c, k, b⟩ T 1048576 w0 (TT.out.below hb) (by omega) (by omega)
      rw [leftOf_yes (by omega)] at h1
      exact h1
    have SZ40 : Hid (sizeT n T ≤ 1099511627776) := Nat.le_trans hbig (by decide)
    have TO : Hid (∀ w0, Below w.heap.size w w0 → Calls Try.prog 19 #[.agg #[.bool lf, p, c, k, b]] w0 fun e w' => ∃ y : TV, e = .returned y.val ∧ TreeAt n w' y T ∧ Below w0.heap.size w0 w') := fun w0 hb =>
      (toTree_any n ⟨lf, p, c, k, b⟩ T w0 (TT.out.below hb) hbig).mono fun e w' ⟨y, h1, h2, h3⟩ => ⟨y, h1, h2.treeAt, h3⟩
    have SP : Hid (∀ (y : TV) (w0 : World), TreeAt n w0 y T → Calls Try.prog 26 #[y.val, .int .i64 x0] w0 fun e w' => e = .returned (.tuple #[.int .i64 (getT T x0).1, .bool (getT T x0).2]) ∧ Below w0.heap.size w0 w') := fun y w0 t => specTreeGet_any n y T x0 w0 t SZ40.out
    have IM : Hid (∀ (y : TV) (w0 : World), TreeAt n w0 y T → Calls Try.prog 27 #[y.val, .int .i64 x0] w0 fun e w' => e = .returned (.tuple #[.int .i64 (getT T x0).1, .bool (getT T x0).2]) ∧ Below w0.heap.size w0 w') := fun y w0 t => implTreeGet_any n y T x0 w0 t
    obtain ⟨⟨A, A2⟩, hA⟩ : ∃ A : Int × Bool, getT T x0 = A := ⟨_, rfl⟩
    rw [hA] at SP IM
    clear hA
    simp only at SP IM
    have hs : (sizeT n T : Int) ≤ 1048576 := by omega
    generalize sizeT n T = sz at *
    show Calls Try.prog 5 #[.agg #[.bool lf, p, c, k, b], .int .i64 x0] w _
    go_enter Try.func5, Try.ntmps5
    go_wp2_with fail
    refine Calls.mono (SZ.out _ B0.out) ?_
    rintro e w1 ⟨rfl, hb1⟩
    have B1 : Hid (Below w.heap.size w w1) := Below.and B0.out hb1
    have S1 : Hid (BoxAt 41 w1 w.heap.size #[.bool lf, p, c, k, b]) := S0.out.step hb1
    have k1 := S1.out.cells
    clear hb1 B0 S0
    go_wp2_with fail
    refine Calls.mono (TO.out _ B1.out) ?_
    rintro e w2 ⟨y2, rfl, t2, hb2⟩
    have B2 : Hid (Below w.heap.size w w2) := Below.and B1.out hb2
    have S2 : Hid (BoxAt 41 w2 w.heap.size #[.bool lf, p, c, k, b]) := S1.out.step hb2
    have T2 : Hid (TreeAt n w2 y2 T) := t2
    clear hb2 t2 k1
    go_wp2_with fail
    refine Calls.mono (SP.out y2 w2 T2.out) ?_
    rintro e w3 ⟨rfl, hb3⟩
    have B3 : Hid (Below w.heap.size w w3) := Below.and B2.out hb3
    have S3 : Hid (BoxAt 41 w3 w.heap.size #[.bool lf, p, c, k, b]) := S2.out.step hb3
    have k3 := S3.out.cells
    clear hb3 B1 B2 S1 S2 T2
    go_wp2_with fail
    refine Calls.mono (TO.out _ B3.out) ?_
    rintro e w4 ⟨y4, rfl, t4, hb4⟩
    have B4 : Hid (Below w.heap.size w w4) := Below.and B3.out hb4
    have S4 : Hid (BoxAt 41 w4 w.heap.size #[.bool lf, p, c, k, b]) := S3.out.step hb4
    obtain ⟨a1, a2, a3, a4, q1, q2, q3, q4, hy⟩ := t4.shape
    generalize T.leaf = m0, T.pairs.length = m1, T.cuts.length = m2, T.kids.length = m3, T.buf.length = m4 at hy
    subst hy
    have T4 : Hid (TreeAt n w4 ⟨m0, .slice a1 m1 q1, .slice a2 m2 q2, .slice a3 m3 q3, .slice a4 m4 q4⟩ T) := t4
    have k4 := S4.out.cells
    have hlt4 : w.heap.size < w4.heap.size := (Array.getElem?_eq_some_iff.1 S4.out).1
    have hne4 : ¬ w.heap.size = w4.heap.size := by omega
    have B5 : Hid (Below w.heap.size w (w4.alloc (.cells #[.bool m0, .slice a1 m1 q1, .slice a2 m2 q2, .slice a3 m3 q3, .slice a4 m4 q4] 29))) := B4.out.alloc B4.out.size _
    have S5 : Hid (BoxAt 41 (w4.alloc (.cells #[.bool m0, .slice a1 m1 q1, .slice a2 m2 q2, .slice a3 m3 q3, .slice a4 m4 q4] 29)) w.heap.size #[.bool lf, p, c, k, b]) := S4.out.step (bel_new _ _)
    have X5 : Hid (BoxAt 29 (w4.alloc (.cells #[.bool m0, .slice a1 m1 q1, .slice a2 m2 q2, .slice a3 m3 q3, .slice a4 m4 q4] 29)) w4.heap.size #[.bool m0, .slice a1 m1 q1, .slice a2 m2 q2, .slice a3 m3 q3, .slice a4 m4 q4]) := BoxAt.start 29 w4 _
    have T5 : Hid (TreeAt n (w4.alloc (.cells #[.bool m0, .slice a1 m1 q1, .slice a2 m2 q2, .slice a3 m3 q3, .slice a4 m4 q4] 29)) ⟨m0, .slice a1 m1 q1, .slice a2 m2 q2, .slice a3 m3 q3, .slice a4 m4 q4⟩ T) := T4.out.below (bel_new _ _)
    clear hb4 t4 k3 B3 S3
    go_wp2_with fail
    refine Calls.mono (IM.out ⟨m0, .slice a1 m1 q1, .slice a2 m2 q2, .slice a3 m3 q3, .slice a4 m4 q4⟩ _ T5.out) ?_
    rintro e w6 ⟨rfl, hb6⟩
    have B6 : Hid (Below w.heap.size w w6) := Below.and B5.out hb6
    have S6 : Hid (BoxAt 41 w6 w.heap.size #[.bool lf, p, c, k, b]) := S5.out.step hb6
    have X6 : Hid (BoxAt 29 w6 w4.heap.size #[.bool m0, .slice a1 m1 q1, .slice a2 m2 q2, .slice a3 m3 q3, .slice a4 m4 q4]) := X5.out.step hb6
    have T6 : Hid (TreeAt n w6 ⟨m0, .slice a1 m1 q1, .slice a2 m2 q2, .slice a3 m3 q3, .slice a4 m4 q4⟩ T) := T5.out.below hb6
    have k6 := S6.out.cells
    have j6 := X6.out.cells
    clear hb6 k4 B4 B5 S4 S5 X5 T4 T5
    generalize w4.heap.size = bx at *
    go_wp2_with fail
    go_region_with (first
      | (go_at_call 19; refine Calls.mono (TO.out _ B6.out.drew) ?_; rintro e w7 ⟨y7, rfl, t7, hb7⟩; have B7 : Hid (Below w.heap.size w w7) := Below.and B6.out.drew hb7; have T7 : Hid (TreeAt n w7 y7 T) := t7; have X7 := (X6.out.step (Below.and (Below.refl _ _).drew hb7)).cells; have U7 : Hid (TreeAt n w7 ⟨m0, .slice a1 m1 q1, .slice a2 m2 q2, .slice a3 m3 q3, .slice a4 m4 q4⟩ T) := T6.out.below (Below.and (Below.refl _ _).drew hb7); clear hb7 t7)
      | (go_at_call 22; refine Calls.mono (eqTree_any n ⟨m0, .slice a1 m1 q1, .slice a2 m2 q2, .slice a3 m3 q3, .slice a4 m4 q4⟩ y7 T _ U7.out T7.out) ?_; rintro e w8 ⟨rfl, hb8⟩; have B8 : Hid (Below w.heap.size w w8) := Below.and B7.out hb8; clear hb8))
    all_goals
      go_wp2
      go_ret
      exact ⟨rfl, B8.out⟩
  · have SZ : Hid (∀ w0, Below w.heap.size w w0 → Calls Try.prog 17 #[.agg #[.bool lf, p, c, k, b], .int .i64 1048576] w0 fun e w' => e = .returned (.int .i64 (-1)) ∧ Below w0.heap.size w0 w') := fun w0 hb => by
      have h1 := szTree_any n ⟨lf, p, c, k, b⟩ T 1048576 w0 (TT.out.below hb) (by omega) (by omega)
      rw [leftOf_no (by omega)] at h1
      exact h1
    show Calls Try.prog 5 #[.agg #[.bool lf, p, c, k, b], .int .i64 x0] w _
    clear hbig
    go_enter Try.func5, Try.ntmps5
    go_wp2_with fail
    refine Calls.mono (SZ.out _ B0.out) ?_
    rintro e w1 ⟨rfl, hb1⟩
    have B1 : Hid (Below w.heap.size w w1) := Below.and B0.out hb1
    clear hb1
    go_wp2
    go_ret
    exact ⟨rfl, B1.out⟩

end Go.Proofs.Ytmpiijphpnjlnaa
