/-
  The walk of the law FnExactTreeRange.
-/
import Derived.Test.YtmpiijphpnjlnaaPart1
import Derived.Test.YtmpiijphpnjlnaaMarks
namespace Go.Proofs.Ytmpiijphpnjlnaa
open Go.RowKit

set_option maxRecDepth 100000 in
set_option maxHeartbeats 4000000 in
theorem fnExactTreeRange_any (n : Nat) (x : TV) (T : Tr) (x0 : Int) (x1 : Int) (w : World) (ht : TreeAt n w x T) :
    Calls Try.prog 7 #[x.val, .int .i64 x0, .int .i64 x1] w fun e w' => e = .returned (.bool true) ∧ Below w.heap.size w w' := by
  have TT : Hid (TreeAt n w x T) := ht
  clear ht
  obtain ⟨lf, p, c, k, b⟩ := x
  have B0 : Hid (Below w.heap.size w (w.alloc (.cells #[.bool lf, p, c, k, b] 41))) := bel_new w _
  have S0 : Hid (BoxAt 41 (w.alloc (.cells #[.bool lf, p, c, k, b] 41)) w.heap.size #[.bool lf, p, c, k, b]) := BoxAt.start 41 w _
  by_cases hbig : sizeT n T ≤ 1048576
  · have SZ : Hid (∀ w0, Below w.heap.size w w0 → Calls Try.prog 17 #[.agg #[.bool lf, p, c, k, b], .int .i64 1048576] w0 fun e w' => e = .returned (.int .i64 (1048576 - (sizeT n T : Nat))) ∧ Below w0.heap.size w0 w') := fun w0 hb => by
      have h1 := szTree_any n ⟨lf, p, c, k, b⟩ T 1048576 w0 (TT.out.below hb) (by omega) (by omega)
      rw [leftOf_yes (by omega)] at h1
      exact h1
    have SZ40 : Hid (sizeT n T ≤ 1099511627776) := Nat.le_trans hbig (by decide)
    have MKB : Hid (1 + ((mkT n T : Nat) : Int) ≤ 1099511627776) := by
      have := mkT_le n T
      show _ ≤ _
      omega
    have TW : Hid (∀ w0, Below w.heap.size w w0 → Calls Try.prog 19 #[.agg #[.bool lf, p, c, k, b]] w0 fun e w' => ∃ y : TV, e = .returned y.val ∧ TreeOwn n w' w0.heap.size y T ∧ Below w0.heap.size w0 w') := fun w0 hb =>
      toTree_any n ⟨lf, p, c, k, b⟩ T w0 (TT.out.below hb) hbig
    have SP : Hid (∀ (y : TV) (w0 : World), TreeAt n w0 y T → Calls Try.prog 33 #[y.val, .int .i64 x0, .int .i64 x1] w0 fun e w' => ∃ v', e = .returned v' ∧ w'.ownsRow w0.heap.size 87 2 v' (rangeT T x0 x1).length (flatP (rangeT T x0 x1)) ∧ Below w0.heap.size w0 w') := fun y w0 t => specTreeRange_any n y T x0 x1 w0 t SZ40.out
    have IM : Hid (∀ (y : TV) (w0 : World), TreeAt n w0 y T → Calls Try.prog 34 #[y.val, .int .i64 x0, .int .i64 x1] w0 fun e w' => ∃ v', e = .returned v' ∧ w'.ownsRow w0.heap.size 87 2 v' (rangeT T x0 x1).length (flatP (rangeT T x0 x1)) ∧ Below w0.heap.size w0 w') := fun y w0 t => implTreeRange_any n y T x0 x1 w0 t
    have hDl : (rangeT T x0 x1).length ≤ 4194304 := Nat.le_trans (rangeT_length T x0 x1) (by decide)
    generalize rangeT T x0 x1 = D at *
    have hs : (sizeT n T : Int) ≤ 1048576 := by omega
    generalize sizeT n T = sz at *
    show Calls Try.prog 7 #[.agg #[.bool lf, p, c, k, b], .int .i64 x0, .int .i64 x1] w _
    go_enter Try.func7, Try.ntmps7
    go_wp2_with fail
    refine Calls.mono (SZ.out _ B0.out) ?_
    rintro e w1 ⟨rfl, hb1⟩
    have B1 : Hid (Below w.heap.size w w1) := Below.and B0.out hb1
    have S1 : Hid (BoxAt 41 w1 w.heap.size #[.bool lf, p, c, k, b]) := S0.out.step hb1
    have k1 := S1.out.cells
    clear hb1 B0 S0
    go_wp2_with fail
    refine Calls.mono (TW.out _ B1.out) ?_
    rintro e w2 ⟨y2, rfl, t2, hb2⟩
    have B2 : Hid (Below w.heap.size w w2) := Below.and B1.out hb2
    have S2 : Hid (BoxAt 41 w2 w.heap.size #[.bool lf, p, c, k, b]) := S1.out.step hb2
    have T2 : Hid (TreeAt n w2 y2 T) := t2.treeAt
    clear hb2 t2 k1
    go_wp2_with fail
    refine Calls.mono (SP.out y2 w2 T2.out) ?_
    rintro e w3 ⟨v3, rfl, o3, hb3⟩
    have B3 : Hid (Below w.heap.size w w3) := Below.and B2.out hb3
    have S3 : Hid (BoxAt 41 w3 w.heap.size #[.bool lf, p, c, k, b]) := S2.out.step hb3
    have O3 : Hid (w3.ownsRow 0 87 2 v3 D.length (flatP D)) := owns_mono o3 (Nat.zero_le _)
    have L3 : Hid (∀ g, v3.ownBlock = some g → g < w3.heap.size) := fun g hg => (o3.lt g hg).2
    have k3 := S3.out.cells
    clear hb3 o3 B1 B2 S1 S2 T2
    go_wp2_with fail
    refine Calls.mono (TW.out _ B3.out) ?_
    rintro e w4 ⟨y4, rfl, t4, hb4⟩
    have B4 : Hid (Below w.heap.size w w4) := Below.and B3.out hb4
    have S4 : Hid (BoxAt 41 w4 w.heap.size #[.bool lf, p, c, k, b]) := S3.out.step hb4
    have O4 : Hid (w4.ownsRow 0 87 2 v3 D.length (flatP D)) := owns_below O3.out hb4
    obtain ⟨a1, a2, a3, a4, q1, q2, q3, q4, hy⟩ := t4.treeAt.shape
    generalize T.leaf = m0, T.pairs.length = m1, T.cuts.length = m2, T.kids.length = m3, T.buf.length = m4 at hy
    subst hy
    have T4 : Hid (TreeAt n w4 ⟨m0, .slice a1 m1 q1, .slice a2 m2 q2, .slice a3 m3 q3, .slice a4 m4 q4⟩ T) := t4.treeAt
    have K4 : Hid (WkTree n w4 w3.heap.size w4.heap.size ⟨m0, .slice a1 m1 q1, .slice a2 m2 q2, .slice a3 m3 q3, .slice a4 m4 q4⟩ T) := WkTree.of_own t4
    have k4 := S4.out.cells
    have hlt3 : w.heap.size < w3.heap.size := (Array.getElem?_eq_some_iff.1 S3.out).1
    have hlt34 : w3.heap.size ≤ w4.heap.size := hb4.size
    have hne4 : ¬ w.heap.size = w4.heap.size := by omega
    have B5 : Hid (Below w.heap.size w (w4.alloc (.cells #[.bool m0, .slice a1 m1 q1, .slice a2 m2 q2, .slice a3 m3 q3, .slice a4 m4 q4] 29))) := B4.out.alloc B4.out.size _
    have S5 : Hid (BoxAt 41 (w4.alloc (.cells #[.bool m0, .slice a1 m1 q1, .slice a2 m2 q2, .slice a3 m3 q3, .slice a4 m4 q4] 29)) w.heap.size #[.bool lf, p, c, k, b]) := S4.out.step (bel_new _ _)
    have X5 : Hid (BoxAt 29 (w4.alloc (.cells #[.bool m0, .slice a1 m1 q1, .slice a2 m2 q2, .slice a3 m3 q3, .slice a4 m4 q4] 29)) w4.heap.size #[.bool m0, .slice a1 m1 q1, .slice a2 m2 q2, .slice a3 m3 q3, .slice a4 m4 q4]) := BoxAt.start 29 w4 _
    have T5 : Hid (TreeAt n (w4.alloc (.cells #[.bool m0, .slice a1 m1 q1, .slice a2 m2 q2, .slice a3 m3 q3, .slice a4 m4 q4] 29)) ⟨m0, .slice a1 m1 q1, .slice a2 m2 q2, .slice a3 m3 q3, .slice a4 m4 q4⟩ T) := T4.out.below (bel_new _ _)
    have N5 : Hid (Below w4.heap.size w4 (w4.alloc (.cells #[.bool m0, .slice a1 m1 q1, .slice a2 m2 q2, .slice a3 m3 q3, .slice a4 m4 q4] 29))) := bel_new _ _
    have hz5 : (w4.alloc (.cells #[.bool m0, .slice a1 m1 q1, .slice a2 m2 q2, .slice a3 m3 q3, .slice a4 m4 q4] 29)).heap.size = w4.heap.size + 1 := World.size_alloc _ _
    clear hb4 t4 k3 B3 S3 O3
    go_wp2_with fail
    refine Calls.mono (IM.out ⟨m0, .slice a1 m1 q1, .slice a2 m2 q2, .slice a3 m3 q3, .slice a4 m4 q4⟩ _ T5.out) ?_
    rintro e w6 ⟨v6, rfl, o6, hb6⟩
    have B6 : Hid (Below w.heap.size w w6) := Below.and B5.out hb6
    have S6 : Hid (BoxAt 41 w6 w.heap.size #[.bool lf, p, c, k, b]) := S5.out.step hb6
    have X6 : Hid (BoxAt 29 w6 w4.heap.size #[.bool m0, .slice a1 m1 q1, .slice a2 m2 q2, .slice a3 m3 q3, .slice a4 m4 q4]) := X5.out.step hb6
    have T6 : Hid (TreeAt n w6 ⟨m0, .slice a1 m1 q1, .slice a2 m2 q2, .slice a3 m3 q3, .slice a4 m4 q4⟩ T) := T5.out.below hb6
    have N6 : Hid (Below w4.heap.size w4 w6) := Below.and N5.out hb6
    have O6 : Hid (w6.ownsRow 0 87 2 v6 D.length (flatP D)) := owns_mono o6 (Nat.zero_le _)
    have L6 : Hid (∀ g, v6.ownBlock = some g → w4.heap.size + 1 ≤ g) := fun g hg => by
      have := (o6.lt g hg).1
      rw [hz5] at this
      exact this
    clear hb6 o6 k4 B4 B5 S4 S5 X5 T4 T5 N5 hz5
    have R36 := Row.of_owns (owns_below O4.out N6.out)
    have R66 := Row.of_owns O6.out
    generalize hbx : w4.heap.size = bx at *
    go_wp2_with fail
    refine Calls.mono (eqPairS_any _ _ D D _ R66 R36) ?_
    rintro e w7 ⟨rfl, hb7⟩
    have N7 : Hid (Below w6.heap.size w6 w7) := hb7
    have B7 : Hid (Below w.heap.size w w7) := Below.and B6.out hb7
    have S7 : Hid (BoxAt 41 w7 w.heap.size #[.bool lf, p, c, k, b]) := S6.out.step hb7
    have X7 : Hid (BoxAt 29 w7 bx #[.bool m0, .slice a1 m1 q1, .slice a2 m2 q2, .slice a3 m3 q3, .slice a4 m4 q4]) := X6.out.step hb7
    have T7 : Hid (TreeAt n w7 ⟨m0, .slice a1 m1 q1, .slice a2 m2 q2, .slice a3 m3 q3, .slice a4 m4 q4⟩ T) := T6.out.below hb7
    have k7 := S7.out.cells
    have j7 := X7.out.cells
    clear hb7 R36 R66 B6 S6 X6 T6
    go_upto_region 10 with fail
    refine wp_gen (fun V => V = w7) rfl ?_
    intro V hV
    go_cut [39] (fun s39 wx => s39 = .bool false ∧ Hid (Below w7.heap.size w7 wx))
    case first =>
      subst hV
      go_wp2_with fail
      go_region_with (first
        | (go_at_call 19; refine Calls.mono (TW.out _ B7.out.drew) ?_; rintro e w8 ⟨y8, rfl, t8, hb8⟩; have B8 : Hid (Below V.heap.size V w8) := Below.and (Below.refl _ _).drew hb8; have T8 : Hid (TreeAt n w8 y8 T) := t8.treeAt; have X8 := (X7.out.step B8.out).cells; have U8 : Hid (TreeAt n w8 ⟨m0, .slice a1 m1 q1, .slice a2 m2 q2, .slice a3 m3 q3, .slice a4 m4 q4⟩ T) := T7.out.below B8.out; clear hb8 t8)
        | (go_at_call 22; refine Calls.mono (eqTree_any n ⟨m0, .slice a1 m1 q1, .slice a2 m2 q2, .slice a3 m3 q3, .slice a4 m4 q4⟩ y8 T _ U8.out T8.out) ?_; rintro e w9 ⟨rfl, hb9⟩; have B9 : Hid (Below V.heap.size V w9) := Below.and B8.out hb9; clear hb9))
      all_goals
        go_wp2_with fail
        go_meet
        case rel => exact ⟨rfl, B9⟩
    case rest =>
    obtain ⟨rfl, B9⟩ := hcut
    clear hV V k7 j7
    have N9 : Hid (Below w6.heap.size w6 wc) := Below.and N7.out B9.out
    have M9 : Hid (Below bx w4 wc) := N6.out.trans (N9.out.mono (by have := N6.out.size; omega))
    have C9 : Hid (Below w.heap.size w wc) := Below.and B7.out B9.out
    have S9 : Hid (BoxAt 41 wc w.heap.size #[.bool lf, p, c, k, b]) := S7.out.step B9.out
    have X9 : Hid (BoxAt 29 wc bx #[.bool m0, .slice a1 m1 q1, .slice a2 m2 q2, .slice a3 m3 q3, .slice a4 m4 q4]) := X7.out.step B9.out
    have K9 : Hid (WkTree n wc w3.heap.size bx ⟨m0, .slice a1 m1 q1, .slice a2 m2 q2, .slice a3 m3 q3, .slice a4 m4 q4⟩ T) := K4.out.mk (Mk.of_below M9.out (by omega))
    have O39 : Hid (wc.ownsRow 0 87 2 v3 D.length (flatP D)) := owns_below O4.out (by rw [hbx]; exact M9.out)
    have O69 : Hid (wc.ownsRow 0 87 2 v6 D.length (flatP D)) := owns_below O6.out N9.out
    have hbw : bx ≤ wc.heap.size := Nat.le_of_lt (Array.getElem?_eq_some_iff.1 X9.out).1
    have j9 := X9.out.cells
    clear B7 S7 X7 T7 N7 B9 N6 O4 O6 K4
    go_wp2_with fail
    refine Calls.mono (markTree_w n ⟨m0, .slice a1 m1 q1, .slice a2 m2 q2, .slice a3 m3 q3, .slice a4 m4 q4⟩ T 1 wc w3.heap.size bx K9.out hbw (by decide) MKB.out) ?_
    rintro e w10 ⟨rfl, mk⟩
    have MK : Hid (Mk w3.heap.size bx wc w10) := mk
    have C10 : Hid (Below w.heap.size w w10) := C9.out.trans (mk.chg.below (fun g _ hg => by omega) C9.out.size)
    have S10 : Hid (BoxAt 41 w10 w.heap.size #[.bool lf, p, c, k, b]) := (mk.chg.block _ (Array.getElem?_eq_some_iff.1 S9.out).1 (fun h => by omega)).trans S9.out
    have O310 : Hid (w10.ownsRow 0 87 2 v3 D.length (flatP D)) := owns_chg O39.out mk.chg (fun g hg h => by have := L3.out g hg; omega)
    have O610 : Hid (w10.ownsRow 0 87 2 v6 D.length (flatP D)) := owns_chg O69.out mk.chg (fun g hg h => by have := L6.out g hg; omega)
    have hk0 : ¬ (1 + ((mkT n T : Nat) : Int) < 0) := by omega
    have R310 := Row.of_owns O310.out
    have R610 := Row.of_owns O610.out
    clear mk j9 C9 S9 X9 K9 O39 O69
    go_wp2_with fail
    refine Calls.mono (eqPairS_any _ _ D D _ R610 R310) ?_
    rintro e w11 ⟨rfl, hb11⟩
    have C11 : Hid (Below w.heap.size w w11) := Below.and C10.out hb11
    have S11 : Hid (BoxAt 41 w11 w.heap.size #[.bool lf, p, c, k, b]) := S10.out.step hb11
    have O311 : Hid (w11.ownsRow 0 87 2 v3 D.length (flatP D)) := owns_below O310.out hb11
    have O611 := owns_below O610.out hb11
    clear hb11 R310 R610 C10 S10 O310 O610
    go_wp2_with fail
    refine Calls.mono (markPairS_any _ D 1 _ O611 hDl (by decide) (by decide)) ?_
    rintro e w12 ⟨rfl, o612, c12⟩
    have C12 : Hid (Below w.heap.size w w12) := C11.out.trans (c12.below (fun g _ hg => by have := L6.out g hg; omega) C11.out.size)
    have S12 : Hid (BoxAt 41 w12 w.heap.size #[.bool lf, p, c, k, b]) := (c12.block _ (Array.getElem?_eq_some_iff.1 S11.out).1 (fun h => by have := L6.out _ h; omega)).trans S11.out
    have O312 : Hid (w12.ownsRow 0 87 2 v3 D.length (flatP D)) := owns_chg O311.out c12 (fun g hg h => by have := L3.out g hg; have := L6.out g h; omega)
    have R612 : Row w12 v6 D.length (flatP (marksP 1 D.length)) := Row.of_owns o612
    have Q612 : Hid _ := R612
    clear o612 c12 O611 C11 S11 O311
    go_wp2_with fail
    refine Calls.mono (heldPairS_any _ D.length 1 _ R612 hDl (by decide) (by decide)) ?_
    rintro e w13 ⟨rfl, hw13⟩
    subst hw13
    have k13 := S12.out.cells
    clear R612
    go_wp2_with fail
    refine Calls.mono (TW.out _ C12.out) ?_
    rintro e w14 ⟨y14, rfl, t14, hb14⟩
    have N14 : Hid (Below w13.heap.size w13 w14) := hb14
    have T14 : Hid (TreeAt n w14 y14 T) := t14.treeAt
    clear hb14 t14 k13
    go_wp2_with fail
    refine Calls.mono (IM.out y14 w14 T14.out) ?_
    rintro e w15 ⟨v15, rfl, o15, hb15⟩
    have N15 : Hid (Below w13.heap.size w13 w15) := Below.and N14.out hb15
    have R15 : Row w15 v15 D.length (flatP D) := Row.of_owns o15
    have R315 := Row.of_owns (owns_below O312.out N15.out)
    clear hb15 o15 N14 T14
    go_wp2_with fail
    refine Calls.mono (eqPairS_any _ _ D D _ R15 R315) ?_
    rintro e w16 ⟨rfl, hb16⟩
    have N16 : Hid (Below w13.heap.size w13 w16) := Below.and N15.out hb16
    have R616 := Row.below (xs := flatP (marksP 1 D.length)) (v := v6) (n := D.length) Q612.out N16.out
    clear hb16 R15 R315
    go_wp2_with fail
    refine Calls.mono (heldPairS_any _ D.length 1 _ R616 hDl (by decide) (by decide)) ?_
    rintro e w17 ⟨rfl, hw17⟩
    subst hw17
    clear R616
    go_wp2
    go_ret
    exact ⟨rfl, Below.and C12.out N16.out⟩
  · have SZ : Hid (∀ w0, Below w.heap.size w w0 → Calls Try.prog 17 #[.agg #[.bool lf, p, c, k, b], .int .i64 1048576] w0 fun e w' => e = .returned (.int .i64 (-1)) ∧ Below w0.heap.size w0 w') := fun w0 hb => by
      have h1 := szTree_any n ⟨lf, p, c, k, b⟩ T 1048576 w0 (TT.out.below hb) (by omega) (by omega)
      rw [leftOf_no (by omega)] at h1
      exact h1
    show Calls Try.prog 7 #[.agg #[.bool lf, p, c, k, b], .int .i64 x0, .int .i64 x1] w _
    clear hbig
    go_enter Try.func7, Try.ntmps7
    go_wp2_with fail
    refine Calls.mono (SZ.out _ B0.out) ?_
    rintro e w1 ⟨rfl, hb1⟩
    have B1 : Hid (Below w.heap.size w w1) := Below.and B0.out hb1
    clear hb1
    go_wp2
    go_ret
    exact ⟨rfl, B1.out⟩

end Go.Proofs.Ytmpiijphpnjlnaa
