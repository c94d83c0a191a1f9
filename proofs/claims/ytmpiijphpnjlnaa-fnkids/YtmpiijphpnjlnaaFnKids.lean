/-
  The law FnKids at any row of bytes.
-/
import Derived.Test.YtmpiijphpnjlnaaKidsMath
namespace Go.Proofs.Ytmpiijphpnjlnaa
open Go.RowKit

set_option maxRecDepth 100000 in
set_option maxHeartbeats 8000000 in
theorem fnKids_any (v : Value) (bs : List Int) (W0 : World) (hc : Code8 W0 v bs) :
    Calls Try.prog 3 #[v] W0 fun e w' => e = .returned (.bool true) ∧ Below W0.heap.size W0 w' := by
  obtain ⟨a0, cap0, hv, hle⟩ := hc.1.len
  by_cases hbig : bs.length ≤ 1048576
  · have hd : decide (bs.length > 1048576) = false := decide_eq_false (by omega)
    have HD : Hid _ := drawKidOf_any v bs W0 hc hbig
    clear hc
    subst hv
    go_enter Try.func3, Try.ntmps3
    go_wp2_with fail
    refine (big_any _ _ _ hle _).mono ?_
    rintro e w0 ⟨rfl, hw0⟩
    subst hw0
    rw [hd]
    generalize bs.length = bn at *
    go_wp2_with fail
    refine Calls.mono HD.out ?_
    rintro e w1 ⟨y, T, k, rfl, hsz, TA, hb1⟩
    have SZ : Hid (sizeT 8 T ≤ 1099511627776) := hsz
    obtain ⟨ya1, ya2, ya3, ya4, yq1, yq2, yq3, yq4, hyy⟩ := TA.shape
    subst hyy
    have TA1 : Hid (TreeAt 8 w1 (⟨T.leaf, .slice ya1 T.pairs.length yq1, .slice ya2 T.cuts.length yq2, .slice ya3 T.kids.length yq3, .slice ya4 T.buf.length yq4⟩ : TV) T) := TA
    have BW : Hid (Below w0.heap.size w0 w1) := hb1
    clear TA hb1 hsz HD
    go_upto_region 4 with fail
    have X1 : Hid (OneAt (w1.alloc (.cells #[.bool T.leaf, .slice ya1 T.pairs.length yq1, .slice ya2 T.cuts.length yq2, .slice ya3 T.kids.length yq3, .slice ya4 T.buf.length yq4] 29)) w1.heap.size #[.bool T.leaf, .slice ya1 T.pairs.length yq1, .slice ya2 T.cuts.length yq2, .slice ya3 T.kids.length yq3, .slice ya4 T.buf.length yq4]) := OneAt.start _ _
    have TA2 : Hid (TreeAt 8 (w1.alloc (.cells #[.bool T.leaf, .slice ya1 T.pairs.length yq1, .slice ya2 T.cuts.length yq2, .slice ya3 T.kids.length yq3, .slice ya4 T.buf.length yq4] 29)) (⟨T.leaf, .slice ya1 T.pairs.length yq1, .slice ya2 T.cuts.length yq2, .slice ya3 T.kids.length yq3, .slice ya4 T.buf.length yq4⟩ : TV) T) := TA1.out.below (al1 _ _)
    have BV : Hid (Below w0.heap.size w0 (w1.alloc (.cells #[.bool T.leaf, .slice ya1 T.pairs.length yq1, .slice ya2 T.cuts.length yq2, .slice ya3 T.kids.length yq3, .slice ya4 T.buf.length yq4] 29))) := Below.and BW.out (al1 _ _)
    clear TA1 BW
    generalize (w1.alloc (.cells #[.bool T.leaf, .slice ya1 T.pairs.length yq1, .slice ya2 T.cuts.length yq2, .slice ya3 T.kids.length yq3, .slice ya4 T.buf.length yq4] 29)) = V at *
    generalize w1.heap.size = NT at *
    have KP : Hid (∀ u, Below V.heap.size V u → (u.cell? ⟨NT, 0, none⟩ = some (.bool T.leaf) ∧ u.cell? ⟨NT, 1, none⟩ = some (.slice ya1 T.pairs.length yq1) ∧ u.cell? ⟨NT, 2, none⟩ = some (.slice ya2 T.cuts.length yq2) ∧ u.cell? ⟨NT, 3, none⟩ = some (.slice ya3 T.kids.length yq3) ∧ u.cell? ⟨NT, 4, none⟩ = some (.slice ya4 T.buf.length yq4)) ∧ TreeAt 8 u (⟨T.leaf, .slice ya1 T.pairs.length yq1, .slice ya2 T.cuts.length yq2, .slice ya3 T.kids.length yq3, .slice ya4 T.buf.length yq4⟩ : TV) T) := fun u hu => ⟨box_cells5 (X1.out.step hu), TA2.out.below hu⟩
    have B0 : Hid (Below V.heap.size V V) := Below.refl _ _
    have FAC : Hid ((okT T = false → ((depthT T : Nat) : Int) = 0 ∧ kidOfT T k = -1 ∧ (if okT T = true then ((pairsF 8 T : Nat) : Int) else 0) = 0 ∧ (if okT T = true then ((msgsF 8 T : Nat) : Int) else 0) = 0) ∧ (okT T = true → T.leaf = true → ((depthT T : Nat) : Int) = 1 ∧ kidOfT T k = -1 ∧ (if okT T = true then ((pairsF 8 T : Nat) : Int) else 0) = (T.pairs.length : Int) ∧ (if okT T = true then ((msgsF 8 T : Nat) : Int) else 0) = 0) ∧ (okT T = true → T.leaf = false → 1 < ((depthT T : Nat) : Int) ∧ kidOfT T k = (prefK T.cuts k : Nat) ∧ prefK T.cuts k ≤ T.cuts.length ∧ T.cuts.length + 1 = T.kids.length ∧ (T.buf.length : Int) ≤ (if okT T = true then ((msgsF 8 T : Nat) : Int) else 0))) := by
      refine ⟨fun h => ?_, fun h hl => ?_, fun h hl => ?_⟩
      · have := kids_no k h
        rw [h]
        exact ⟨this.1, this.2, rfl, rfl⟩
      · obtain ⟨x1, x2, x3, x4⟩ := kids_leaf k h hl
        rw [if_pos h, if_pos h, x3, x4]
        exact ⟨x1, x2, rfl, rfl⟩
      · obtain ⟨x1, x2, x3, x4, x5⟩ := kids_fork k h hl
        rw [if_pos h]
        exact ⟨x1, x2, x3, x4, by omega⟩
    have CUTS : Hid (∀ (u : World) (j : Nat), Below V.heap.size V u → j < T.cuts.length → ∃ b off, ya2 = some ⟨b, off, none⟩ ∧ u.cell? ⟨b, off + j, none⟩ = some (.int .i64 (iAt T.cuts j))) := fun u j hu hj => by
      obtain ⟨_, _, hcu, _, _⟩ := (KP.out u hu).2.parts
      obtain ⟨bv, b2, off2, c2, hvc, _, _, ha2, ck⟩ := hcu.ints
      simp at hvc
      exact ⟨b2, off2, hvc.1.trans (ha2 (by omega)), ck j hj⟩
    clear X1 TA2
    generalize hI : kidOfT T k = I at *
    generalize hDp : ((depthT T : Nat) : Int) = D at *
    generalize hP : (if okT T = true then ((pairsF 8 T : Nat) : Int) else 0) = P at *
    generalize hM : (if okT T = true then ((msgsF 8 T : Nat) : Int) else 0) = M at *
    obtain ⟨c0, c1, c2, c3, c4⟩ := (KP.out _ B0.out).1
    have HX : Hid _ := implKidOf_any 8 ⟨T.leaf, .slice ya1 T.pairs.length yq1, .slice ya2 T.cuts.length yq2, .slice ya3 T.kids.length yq3, .slice ya4 T.buf.length yq4⟩ T k V (KP.out _ B0.out).2
    rw [hI] at HX
    go_wp2_with fail
    refine Calls.mono HX.out ?_
    rintro e v0 ⟨rfl, hb⟩
    have B1 : Hid (Below V.heap.size V v0) := Below.and B0.out hb
    clear c0 c1 c2 c3 c4 hb HX
    obtain ⟨c0, c1, c2, c3, c4⟩ := (KP.out _ B1.out).1
    have HX : Hid _ := implTreeDepth_any 8 ⟨T.leaf, .slice ya1 T.pairs.length yq1, .slice ya2 T.cuts.length yq2, .slice ya3 T.kids.length yq3, .slice ya4 T.buf.length yq4⟩ T v0 (KP.out _ B1.out).2
    rw [hDp] at HX
    go_wp2_with fail
    refine Calls.mono HX.out ?_
    rintro e v1 ⟨rfl, hb⟩
    have B2 : Hid (Below V.heap.size V v1) := Below.and B1.out hb
    clear c0 c1 c2 c3 c4 hb HX
    obtain ⟨c0, c1, c2, c3, c4⟩ := (KP.out _ B2.out).1
    have HX : Hid _ := implTreeCount_any 8 ⟨T.leaf, .slice ya1 T.pairs.length yq1, .slice ya2 T.cuts.length yq2, .slice ya3 T.kids.length yq3, .slice ya4 T.buf.length yq4⟩ T v1 (KP.out _ B2.out).2 SZ.out
    rw [hP, hM] at HX
    go_wp2_with fail
    refine Calls.mono HX.out ?_
    rintro e v2 ⟨rfl, hb⟩
    have B3 : Hid (Below V.heap.size V v2) := Below.and B2.out hb
    clear c0 c1 c2 c3 c4 hb HX
    obtain ⟨c0, c1, c2, c3, c4⟩ := (KP.out _ B3.out).1
    have HX : Hid _ := specTreeCount_any 8 ⟨T.leaf, .slice ya1 T.pairs.length yq1, .slice ya2 T.cuts.length yq2, .slice ya3 T.kids.length yq3, .slice ya4 T.buf.length yq4⟩ T v2 (KP.out _ B3.out).2 SZ.out
    rw [hP, hM] at HX
    go_wp2_with fail
    refine Calls.mono HX.out ?_
    rintro e v3 ⟨rfl, hb⟩
    have B4 : Hid (Below V.heap.size V v3) := Below.and B3.out hb
    clear c0 c1 c2 c3 c4 hb HX
    obtain ⟨c0, c1, c2, c3, c4⟩ := (KP.out _ B4.out).1
    have HX : Hid _ := specKidOf_any 8 ⟨T.leaf, .slice ya1 T.pairs.length yq1, .slice ya2 T.cuts.length yq2, .slice ya3 T.kids.length yq3, .slice ya4 T.buf.length yq4⟩ T k v3 (KP.out _ B4.out).2 SZ.out
    rw [hI] at HX
    go_wp2_with fail
    refine Calls.mono HX.out ?_
    rintro e v4 ⟨rfl, hb⟩
    have B5 : Hid (Below V.heap.size V v4) := Below.and B4.out hb
    clear c0 c1 c2 c3 c4 hb HX
    obtain ⟨c0, c1, c2, c3, c4⟩ := (KP.out _ B5.out).1
    have HX : Hid _ := specTreeDepth_any 8 ⟨T.leaf, .slice ya1 T.pairs.length yq1, .slice ya2 T.cuts.length yq2, .slice ya3 T.kids.length yq3, .slice ya4 T.buf.length yq4⟩ T v4 (KP.out _ B5.out).2 SZ.out
    rw [hDp] at HX
    go_wp2_with fail
    refine Calls.mono HX.out ?_
    rintro e v5 ⟨rfl, hb⟩
    have B6 : Hid (Below V.heap.size V v5) := Below.and B5.out hb
    clear c0 c1 c2 c3 c4 hb HX
    obtain ⟨c0, c1, c2, c3, c4⟩ := (KP.out _ B6.out).1
    have HX : Hid _ := specTreeOk_any 8 ⟨T.leaf, .slice ya1 T.pairs.length yq1, .slice ya2 T.cuts.length yq2, .slice ya3 T.kids.length yq3, .slice ya4 T.buf.length yq4⟩ T v5 (KP.out _ B6.out).2 SZ.out
    rw [show okT T = okT T from rfl] at HX
    go_wp2_with fail
    refine Calls.mono HX.out ?_
    rintro e v6 ⟨rfl, hb⟩
    have B7 : Hid (Below V.heap.size V v6) := Below.and B6.out hb
    clear c0 c1 c2 c3 c4 hb HX
    clear hI hDp hP hM
    have BF : Hid (Below w0.heap.size w0 v6) := Below.and BV.out B7.out
    obtain ⟨c0, c1, c2, c3, c4⟩ := (KP.out _ B7.out).1
    cases hok : okT T with
    | false =>
      obtain ⟨h1, h2, h3, h4⟩ := FAC.out.1 hok
      subst h1
      subst h2
      subst h3
      subst h4
      clear KP CUTS FAC
      go_wp2
      go_ret
      exact ⟨rfl, BF.out⟩
    | true =>
      cases hl : T.leaf with
      | true =>
        obtain ⟨h1, h2, h3, h4⟩ := FAC.out.2.1 hok hl
        subst h1
        subst h2
        subst h3
        subst h4
        rw [hl] at c0
        clear KP CUTS FAC
        go_wp2
        go_ret
        exact ⟨rfl, BF.out⟩
      | false =>
        obtain ⟨h1, h2, h3, h4, h5⟩ := FAC.out.2.2 hok hl
        subst h2
        rw [hl] at c0
        have PA : Hid (∀ j, j < prefK T.cuts k → iAt T.cuts j ≤ k) := fun j hj => prefK_all hj
        have PS : Hid (prefK T.cuts k < T.cuts.length → k < iAt T.cuts (prefK T.cuts k)) := fun h => prefK_stop h
        have CU : Hid (∀ (j : Nat), j < T.cuts.length → ∃ b off, ya2 = some ⟨b, off, none⟩ ∧ v6.cell? ⟨b, off + j, none⟩ = some (.int .i64 (iAt T.cuts j))) := fun j hj => CUTS.out v6 j B7.out hj
        generalize prefK T.cuts k = i at *
        clear KP CUTS FAC
        have hcl : T.cuts.length ≤ 1099511627776 := by
          have hsz := SZ.out
          simp only [sizeT] at hsz
          omega
        have g1 : (0 : Int) ≤ (i : Int) := by omega
        have g2 : (i : Int) < (T.kids.length : Int) := by omega
        cases i with
        | zero =>
          by_cases hc : T.cuts.length = 0
          · have hc' : ((0 : Nat) : Int) = (T.cuts.length : Int) := by omega
            go_wp2
            go_ret
            exact ⟨ret_bool (by simp), BF.out⟩
          · have hc' : ¬ ((0 : Nat) : Int) = (T.cuts.length : Int) := by omega
            have hc2 : (0 : Int) < (T.cuts.length : Int) := by omega
            have hk := PS.out (by omega)
            obtain ⟨b, off, rfl, ck⟩ := CU.out 0 (by omega)
            simp only [Nat.add_zero] at ck
            go_wp2
            go_ret
            exact ⟨ret_bool (by simp), BF.out⟩
        | succ i =>
          have hk1 := PA.out i (by omega)
          obtain ⟨b, off, rfl, ck⟩ := CU.out i (by omega)
          have hw : IntKind.i64.wrap ((i + 1 : Nat) - 1 : Int) = (i : Int) := by rw [IntKind.wrap_i64]; omega
          have hi1 : (i : Int) < (T.cuts.length : Int) := by omega
          have hi0 : (0 : Int) ≤ (i : Int) := by omega
          by_cases hc : T.cuts.length = i + 1
          · have hc' : ((i + 1 : Nat) : Int) = (T.cuts.length : Int) := by omega
            go_wp2
            go_ret
            exact ⟨ret_bool (by simp), BF.out⟩
          · have hc' : ¬ ((i + 1 : Nat) : Int) = (T.cuts.length : Int) := by omega
            have hc2 : ((i + 1 : Nat) : Int) < (T.cuts.length : Int) := by omega
            have hk := PS.out (by omega)
            obtain ⟨b', off', hb', ck'⟩ := CU.out (i + 1) (by omega)
            simp at hb'
            obtain ⟨rfl, rfl⟩ := hb'
            go_wp2
            go_ret
            exact ⟨ret_bool (by simp), BF.out⟩
  · have hd : decide (bs.length > 1048576) = true := decide_eq_true (by omega)
    subst hv
    go_enter Try.func3, Try.ntmps3
    go_wp2_with fail
    refine (big_any _ _ _ hle _).mono ?_
    rintro e w0 ⟨rfl, hw0⟩
    subst hw0
    rw [hd]
    go_wp2
    go_ret
    exact ⟨rfl, Below.refl _ _⟩

end Go.Proofs.Ytmpiijphpnjlnaa
