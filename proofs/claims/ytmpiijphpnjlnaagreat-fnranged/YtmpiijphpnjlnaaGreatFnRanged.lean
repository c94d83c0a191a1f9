/-
  The law FnRanged at any row of bytes.
-/
import Derived.Test.YtmpiijphpnjlnaaGreatDRange
namespace Go.Proofs.YtmpiijphpnjlnaaGreat
open Go.RowKit

set_option maxRecDepth 100000 in
set_option maxHeartbeats 8000000 in
theorem fnRanged_any (v : Value) (bs : List Int) (W0 : World) (hc : Code8 W0 v bs) :
    Calls Tryz.prog 4 #[v] W0 fun e w' => e = .returned (.bool true) ∧ Below W0.heap.size W0 w' := by
  obtain ⟨a0, cap0, hv, hle⟩ := hc.1.len
  by_cases hbig : bs.length ≤ 1048576
  · have hd : decide (bs.length > 1048576) = false := decide_eq_false (by omega)
    have HD : Hid _ := drawTreeRange_any v bs W0 hc hbig
    have CO : Hid (∀ u, Below W0.heap.size W0 u → Code8 u v bs) := fun u hu => hc.below hu
    obtain ⟨ip, hip, hip0, hip1, hip2⟩ := info_parts Tryz.info52
    clear hc
    subst hv
    have HAT : Hid (∀ u, Below W0.heap.size W0 u → Calls Tryz.prog 20 #[.slice a0 bs.length cap0, .int .i64 1] u fun e w' => (∃ x : Int, e = .returned (.int .i64 x) ∧ 0 ≤ x ∧ x ≤ 255) ∧ w' = u) := fun u hu => at_any _ bs u (CO.out u hu) hbig 1 (by decide)
    go_enter Tryz.func4, Tryz.ntmps4
    go_wp2_with fail
    refine (big_any _ _ _ hle _).mono ?_
    rintro e w0 ⟨rfl, hw0⟩
    subst hw0
    rw [hd]
    generalize bs.length = bn at *
    go_wp2_with fail
    refine Calls.mono HD.out ?_
    rintro e w1 ⟨y, T, lo, hi, rfl, hlo, hlh, hhi, hsz, TF, hb1⟩
    have SZ : Hid (sizeT 8 T ≤ 1099511627776) := hsz
    obtain ⟨ya1, ya2, ya3, ya4, yq1, yq2, yq3, yq4, hyy⟩ := TF.treeAt.shape
    subst hyy
    have TA1 : Hid (TreeAt 8 w1 (⟨T.leaf, .slice ya1 T.pairs.length yq1, .slice ya2 T.cuts.length yq2, .slice ya3 T.kids.length yq3, .slice ya4 T.buf.length yq4⟩ : TV) T) := TF.treeAt
    have BW : Hid (Below w0.heap.size w0 w1) := hb1
    clear TF hb1 hsz HD
    go_upto_region 4 with fail
    have X1 : Hid (OneAt (w1.alloc (.cells #[.bool T.leaf, .slice ya1 T.pairs.length yq1, .slice ya2 T.cuts.length yq2, .slice ya3 T.kids.length yq3, .slice ya4 T.buf.length yq4] 29)) w1.heap.size #[.bool T.leaf, .slice ya1 T.pairs.length yq1, .slice ya2 T.cuts.length yq2, .slice ya3 T.kids.length yq3, .slice ya4 T.buf.length yq4]) := OneAt.start _ _
    have TA2 : Hid (TreeAt 8 (w1.alloc (.cells #[.bool T.leaf, .slice ya1 T.pairs.length yq1, .slice ya2 T.cuts.length yq2, .slice ya3 T.kids.length yq3, .slice ya4 T.buf.length yq4] 29)) (⟨T.leaf, .slice ya1 T.pairs.length yq1, .slice ya2 T.cuts.length yq2, .slice ya3 T.kids.length yq3, .slice ya4 T.buf.length yq4⟩ : TV) T) := TA1.out.below (al1 _ _)
    have BV : Hid (Below w0.heap.size w0 (w1.alloc (.cells #[.bool T.leaf, .slice ya1 T.pairs.length yq1, .slice ya2 T.cuts.length yq2, .slice ya3 T.kids.length yq3, .slice ya4 T.buf.length yq4] 29))) := Below.and BW.out (al1 _ _)
    clear TA1 BW
    generalize (w1.alloc (.cells #[.bool T.leaf, .slice ya1 T.pairs.length yq1, .slice ya2 T.cuts.length yq2, .slice ya3 T.kids.length yq3, .slice ya4 T.buf.length yq4] 29)) = V at *
    generalize w1.heap.size = NT at *
    have KP : Hid (∀ u, Below V.heap.size V u → (u.cell? ⟨NT, 0, none⟩ = some (.bool T.leaf) ∧ u.cell? ⟨NT, 1, none⟩ = some (.slice ya1 T.pairs.length yq1) ∧ u.cell? ⟨NT, 2, none⟩ = some (.slice ya2 T.cuts.length yq2) ∧ u.cell? ⟨NT, 3, none⟩ = some (.slice ya3 T.kids.length yq3) ∧ u.cell? ⟨NT, 4, none⟩ = some (.slice ya4 T.buf.length yq4)) ∧ TreeAt 8 u (⟨T.leaf, .slice ya1 T.pairs.length yq1, .slice ya2 T.cuts.length yq2, .slice ya3 T.kids.length yq3, .slice ya4 T.buf.length yq4⟩ : TV) T) := fun u hu => ⟨box_cells5 (X1.out.step hu), TA2.out.below hu⟩
    have KS : Hid (∀ u, Below V.heap.size V u → (u.cell? ⟨NT, 0, none⟩ = some (.bool T.leaf) ∧ u.cell? ⟨NT, 1, none⟩ = some (.slice ya1 T.pairs.length yq1) ∧ u.cell? ⟨NT, 2, none⟩ = some (.slice ya2 T.cuts.length yq2) ∧ u.cell? ⟨NT, 3, none⟩ = some (.slice ya3 T.kids.length yq3) ∧ u.cell? ⟨NT, 4, none⟩ = some (.slice ya4 T.buf.length yq4)) ∧ Hid (Below V.heap.size V u)) := fun u hu => ⟨(KP.out u hu).1, hu⟩
    have B0 : Hid (Below V.heap.size V V) := Below.refl _ _
    clear X1 TA2
    obtain ⟨c0, c1, c2, c3, c4⟩ := (KP.out _ B0.out).1
    have HX : Hid _ := implTreeRange_any 8 ⟨T.leaf, .slice ya1 T.pairs.length yq1, .slice ya2 T.cuts.length yq2, .slice ya3 T.kids.length yq3, .slice ya4 T.buf.length yq4⟩ T lo hi V (KP.out _ B0.out).2
    go_wp2_with fail
    refine Calls.mono HX.out ?_
    rintro e v0 ⟨vr, rfl, orr, hb⟩
    have B1 : Hid (Below V.heap.size V v0) := Below.and B0.out hb
    have RR : Hid (∀ u, Below v0.heap.size v0 u → Row u vr (rangeT T lo hi).length (flatP (rangeT T lo hi))) := fun u hu => (Row.of_owns orr).below hu
    obtain ⟨ra, rq, hvr, _⟩ := (Row.of_owns orr).len
    subst hvr
    clear c0 c1 c2 c3 c4 hb HX orr
    have S0 := KS.out v0.drew B1.out.drew
    have T0 := KS.out v0 B1.out
    go_wp2_with fail
    go_region_held3 (fun u => (u.cell? ⟨NT, 0, none⟩ = some (.bool T.leaf) ∧ u.cell? ⟨NT, 1, none⟩ = some (.slice ya1 T.pairs.length yq1) ∧ u.cell? ⟨NT, 2, none⟩ = some (.slice ya2 T.cuts.length yq2) ∧ u.cell? ⟨NT, 3, none⟩ = some (.slice ya3 T.kids.length yq3) ∧ u.cell? ⟨NT, 4, none⟩ = some (.slice ya4 T.buf.length yq4)) ∧ Hid (Below V.heap.size V u)) (assumption) (first
      | (have _ := S12; go_at_call 17; refine (samePairs_any v11 v12 (mapT T) (mapT T) _ (R11.out _ L12.out) R12.out).mono ?_; rintro e w13 ⟨rfl, b13⟩; rw [decide_eq_true (rfl : mapT T = mapT T)]; have S13 := KS.out _ (Below.and S12.2.out b13); have L13 : Hid (Below v0.heap.size v0 w13) := Below.and M12.out b13; clear b13)
      | (have _ := S9; go_at_call 17; refine (samePairs_any _ v9 (rangeT T lo hi) (rangeT T lo hi) _ (RR.out _ L9.out) R9.out).mono ?_; rintro e w10 ⟨rfl, b10⟩; rw [decide_eq_true (rfl : rangeT T lo hi = rangeT T lo hi)]; have S10 := KS.out _ (Below.and S9.2.out b10); have L10 : Hid (Below v0.heap.size v0 w10) := Below.and L9.out b10; clear b10)
      | (go_at_call 18; refine (specTreeRange_any 8 ⟨T.leaf, .slice ya1 T.pairs.length yq1, .slice ya2 T.cuts.length yq2, .slice ya3 T.kids.length yq3, .slice ya4 T.buf.length yq4⟩ T lo hi _ (KP.out _ S0.2.out).2 SZ.out).mono ?_; rintro e w9 ⟨v9, rfl, o9, b9⟩; have S9 := KS.out _ (Below.and S0.2.out b9); have L9 : Hid (Below v0.heap.size v0 w9) := Below.and (show Below v0.heap.size v0 v0.drew from (Below.refl _ _).drew) b9; have R9 : Hid (Row w9 v9 (rangeT T lo hi).length (flatP (rangeT T lo hi))) := Row.of_owns o9; clear o9 b9)
      | (go_at_call 13; refine (implTreeMap_any 8 ⟨T.leaf, .slice ya1 T.pairs.length yq1, .slice ya2 T.cuts.length yq2, .slice ya3 T.kids.length yq3, .slice ya4 T.buf.length yq4⟩ T _ (KP.out _ S10.2.out).2).mono ?_; rintro e w11 ⟨v11, rfl, o11, b11⟩; have S11 := KS.out _ (Below.and S10.2.out b11); have L11 : Hid (Below v0.heap.size v0 w11) := Below.and L10.out b11; have R11 : Hid (∀ u, Below w11.heap.size w11 u → Row u v11 (mapT T).length (flatP (mapT T))) := fun u hu => (Row.of_owns o11).below hu; clear o11 b11)
      | (go_at_call 19; refine (specTreeMap_any 8 ⟨T.leaf, .slice ya1 T.pairs.length yq1, .slice ya2 T.cuts.length yq2, .slice ya3 T.kids.length yq3, .slice ya4 T.buf.length yq4⟩ T _ (KP.out _ S11.2.out).2 SZ.out).mono ?_; rintro e w12 ⟨v12, rfl, o12, b12⟩; have S12 := KS.out _ (Below.and S11.2.out b12); have L12 : Hid (Below w11.heap.size w11 w12) := b12; have M12 : Hid (Below v0.heap.size v0 w12) := Below.and L11.out b12; have R12 : Hid (Row w12 v12 (mapT T).length (flatP (mapT T))) := Row.of_owns o12; clear o12 b12))
    have S13' := S13.2
    have L13' := L13
    clear S0 T0 S9 S10 S11 S12 S13 R9 R11 R12 L9 L10 L11 L12 M12
    go_wp2_with fail
    refine Calls.mono (HAT.out _ (Below.and BV.out S13'.out)) ?_
    rintro e U ⟨⟨x, rfl, hx0, hx1⟩, rfl⟩
    have BU : Hid (Below V.heap.size V U) := S13'.out
    have LV : Hid (Below v0.heap.size v0 U) := L13'.out
    have BUS : Hid (V.heap.size ≤ U.heap.size) := BU.out.size
    have LVS : Hid (v0.heap.size ≤ U.heap.size) := LV.out.size
    have hr0 : 0 ≤ x % 25 := by omega
    have hr1 : x % 25 < 25 := by omega
    have hwr : IntKind.i64.wrap (lo + x % 25) = lo + x % 25 := by rw [IntKind.wrap_i64]; omega
    clear S13' L13' HAT CO
    by_cases hgt : hi < lo + x % 25
    · have hgt' := hgt
      have SPLIT : Hid (∀ (u : World) (v : Value), Row u v ((rangeT T lo hi).length + (rangeT T hi hi).length) (flatP (rangeT T lo hi) ++ flatP (rangeT T hi hi)) → Row u v (rangeT T lo hi).length (flatP (rangeT T lo hi))) := fun u v h => by
        have e := range_parts T (lo := lo) (mid := hi) (hi := hi) hlh (Int.le_refl _)
        rw [← e, List.length_append, flatP_append]
        exact h
      have ROOM : Hid ((rangeT T lo hi).length + (rangeT T hi hi).length ≤ maxLen ∧ ((rangeT T lo hi).length + (rangeT T hi hi).length) * 16 ≤ 140737488355328) := by
        have h1 := rangeT_length T lo hi
        have h2 := rangeT_length T hi hi
        exact ⟨by unfold maxLen; omega, by omega⟩
      go_wp2_with fail
      have P0 := KS.out _ BU.out.drew
      have P1 := KS.out _ BU.out
      have LU : Hid (Below v0.heap.size v0 U.drew) := LV.out.drew
      go_region_held3 (fun u => (u.cell? ⟨NT, 0, none⟩ = some (.bool T.leaf) ∧ u.cell? ⟨NT, 1, none⟩ = some (.slice ya1 T.pairs.length yq1) ∧ u.cell? ⟨NT, 2, none⟩ = some (.slice ya2 T.cuts.length yq2) ∧ u.cell? ⟨NT, 3, none⟩ = some (.slice ya3 T.kids.length yq3) ∧ u.cell? ⟨NT, 4, none⟩ = some (.slice ya4 T.buf.length yq4)) ∧ Hid (Below V.heap.size V u)) (assumption) (first
        | (have _ := Q5; go_at_call 17; refine (samePairs_any v25 v26 (mapT T) (mapT T) _ (R25.out _ Q6.out) R26.out).mono ?_; rintro e w27 ⟨rfl, b27⟩; rw [decide_eq_true (rfl : mapT T = mapT T)]; have S27 := KS.out _ (Below.and S26.2.out b27); have L27 : Hid (Below v0.heap.size v0 w27) := Below.and L26.out b27; clear b27)
        | (go_at_call 21; refine (implMapOk_any _ (rangeT T lo hi) _ (RR.out _ L27.out)).mono ?_; rintro e w28 ⟨rfl, b28⟩; rw [range_ok]; have S28 := KS.out _ (Below.and S27.2.out b28); clear b28)
        | (have _ := Q3; go_at_call 17; refine (samePairs_any v23 _ (rangeT T lo hi) (rangeT T lo hi) _ R23.out (RR.out _ L23.out)).mono ?_; rintro e w24 ⟨rfl, b24⟩; rw [decide_eq_true (rfl : rangeT T lo hi = rangeT T lo hi)]; have S24 := KS.out _ (Below.and S23.2.out b24); have L24 : Hid (Below v0.heap.size v0 w24) := Below.and L23.out b24; have Q4 : Hid True := trivial; clear b24)
        | (have _ := Q4; go_at_call 16; refine (implTreeRange_any 8 ⟨T.leaf, .slice ya1 T.pairs.length yq1, .slice ya2 T.cuts.length yq2, .slice ya3 T.kids.length yq3, .slice ya4 T.buf.length yq4⟩ T 0 1000 _ (KP.out _ S24.2.out).2).mono ?_; rintro e w25 ⟨v25, rfl, o25, b25⟩; rw [range_all] at o25; have S25 := KS.out _ (Below.and S24.2.out b25); have L25 : Hid (Below v0.heap.size v0 w25) := Below.and L24.out b25; have R25 : Hid (∀ u, Below w25.heap.size w25 u → Row u v25 (mapT T).length (flatP (mapT T))) := fun u hu => (Row.of_owns o25).below hu; clear o25 b25 Q4)
        | (go_at_call 13; refine (implTreeMap_any 8 ⟨T.leaf, .slice ya1 T.pairs.length yq1, .slice ya2 T.cuts.length yq2, .slice ya3 T.kids.length yq3, .slice ya4 T.buf.length yq4⟩ T _ (KP.out _ S25.2.out).2).mono ?_; rintro e w26 ⟨v26, rfl, o26, b26⟩; have S26 := KS.out _ (Below.and S25.2.out b26); have L26 : Hid (Below v0.heap.size v0 w26) := Below.and L25.out b26; have Q6 : Hid (Below w25.heap.size w25 w26) := b26; have R26 : Hid (Row w26 v26 (mapT T).length (flatP (mapT T))) := Row.of_owns o26; have Q5 : Hid True := trivial; clear o26 b26)
        | (have _ := Q1; go_at_call 16; refine (implTreeRange_any 8 ⟨T.leaf, .slice ya1 T.pairs.length yq1, .slice ya2 T.cuts.length yq2, .slice ya3 T.kids.length yq3, .slice ya4 T.buf.length yq4⟩ T hi hi _ (KP.out _ S21.2.out).2).mono ?_; rintro e w22 ⟨v22, rfl, o22, b22⟩; have S22 := KS.out _ (Below.and S21.2.out b22); have L22 : Hid (Below v0.heap.size v0 w22) := Below.and L21.out b22; have R22 : Hid (Row w22 v22 (rangeT T hi hi).length (flatP (rangeT T hi hi))) := Row.of_owns o22; have O22 : Hid (w22.ownsRow U.heap.size 52 2 v21 (rangeT T lo hi).length (flatP (rangeT T lo hi))) := owns_chg O21.out (Chg.of_below (F := fun _ => False) b22) (fun _ _ h => h); have Z22 : Hid (U.heap.size ≤ w22.heap.size) := Nat.le_trans Z21.out b22.size; have Q2 : Hid True := trivial; clear o22 b22 Q1)
        | (go_at_call 16; refine (implTreeRange_any 8 ⟨T.leaf, .slice ya1 T.pairs.length yq1, .slice ya2 T.cuts.length yq2, .slice ya3 T.kids.length yq3, .slice ya4 T.buf.length yq4⟩ T lo hi _ (KP.out _ P0.2.out).2).mono ?_; rintro e w21 ⟨v21, rfl, o21, b21⟩; have S21 := KS.out _ (Below.and P0.2.out b21); have L21 : Hid (Below v0.heap.size v0 w21) := Below.and LU.out b21; have O21 : Hid (w21.ownsRow U.heap.size 52 2 v21 (rangeT T lo hi).length (flatP (rangeT T lo hi))) := o21; have Z21 : Hid (U.heap.size ≤ w21.heap.size) := b21.size; have Q1 : Hid True := trivial; clear o21 b21)
        | (refine step_app_row _ rfl _ _ 24 rfl U.heap.size 52 ip _ 2 16 Tryz.underlying24 hip hip0 hip1 hip2 rfl (by decide) v21 (rangeT T lo hi).length (flatP (rangeT T lo hi)) rfl O22.out v22 (rangeT T hi hi).length (flatP (rangeT T hi hi)) rfl R22.out (flatP_length _) (flatP_one _) ROOM.out.1 ROOM.out.2 Z22.out ?_; intro v23 w23 o23 c23 b23; have S23 := KS.out _ ((S22.2.out).trans (b23.mono BUS.out)); have L23 : Hid (Below v0.heap.size v0 w23) := L22.out.trans (b23.mono LVS.out); have R23 : Hid (Row w23 v23 (rangeT T lo hi).length (flatP (rangeT T lo hi))) := SPLIT.out w23 v23 (Row.of_owns o23); have Q3 : Hid True := trivial; clear o23 c23 b23))
      go_wp2
      go_ret
      exact ⟨rfl, Below.and BV.out S28.2.out⟩
    · have hgt' := hgt
      have SPLIT : Hid (∀ (u : World) (v : Value), Row u v ((rangeT T lo (lo + x % 25)).length + (rangeT T (lo + x % 25) hi).length) (flatP (rangeT T lo (lo + x % 25)) ++ flatP (rangeT T (lo + x % 25) hi)) → Row u v (rangeT T lo hi).length (flatP (rangeT T lo hi))) := fun u v h => by
        have e := range_parts T (lo := lo) (mid := (lo + x % 25)) (hi := hi) (by omega) (by omega)
        rw [← e, List.length_append, flatP_append]
        exact h
      have ROOM : Hid ((rangeT T lo (lo + x % 25)).length + (rangeT T (lo + x % 25) hi).length ≤ maxLen ∧ ((rangeT T lo (lo + x % 25)).length + (rangeT T (lo + x % 25) hi).length) * 16 ≤ 140737488355328) := by
        have h1 := rangeT_length T lo (lo + x % 25)
        have h2 := rangeT_length T (lo + x % 25) hi
        exact ⟨by unfold maxLen; omega, by omega⟩
      go_wp2_with fail
      have P0 := KS.out _ BU.out.drew
      have P1 := KS.out _ BU.out
      have LU : Hid (Below v0.heap.size v0 U.drew) := LV.out.drew
      go_region_held3 (fun u => (u.cell? ⟨NT, 0, none⟩ = some (.bool T.leaf) ∧ u.cell? ⟨NT, 1, none⟩ = some (.slice ya1 T.pairs.length yq1) ∧ u.cell? ⟨NT, 2, none⟩ = some (.slice ya2 T.cuts.length yq2) ∧ u.cell? ⟨NT, 3, none⟩ = some (.slice ya3 T.kids.length yq3) ∧ u.cell? ⟨NT, 4, none⟩ = some (.slice ya4 T.buf.length yq4)) ∧ Hid (Below V.heap.size V u)) (assumption) (first
        | (have _ := Q5; go_at_call 17; refine (samePairs_any v25 v26 (mapT T) (mapT T) _ (R25.out _ Q6.out) R26.out).mono ?_; rintro e w27 ⟨rfl, b27⟩; rw [decide_eq_true (rfl : mapT T = mapT T)]; have S27 := KS.out _ (Below.and S26.2.out b27); have L27 : Hid (Below v0.heap.size v0 w27) := Below.and L26.out b27; clear b27)
        | (go_at_call 21; refine (implMapOk_any _ (rangeT T lo hi) _ (RR.out _ L27.out)).mono ?_; rintro e w28 ⟨rfl, b28⟩; rw [range_ok]; have S28 := KS.out _ (Below.and S27.2.out b28); clear b28)
        | (have _ := Q3; go_at_call 17; refine (samePairs_any v23 _ (rangeT T lo hi) (rangeT T lo hi) _ R23.out (RR.out _ L23.out)).mono ?_; rintro e w24 ⟨rfl, b24⟩; rw [decide_eq_true (rfl : rangeT T lo hi = rangeT T lo hi)]; have S24 := KS.out _ (Below.and S23.2.out b24); have L24 : Hid (Below v0.heap.size v0 w24) := Below.and L23.out b24; have Q4 : Hid True := trivial; clear b24)
        | (have _ := Q4; go_at_call 16; refine (implTreeRange_any 8 ⟨T.leaf, .slice ya1 T.pairs.length yq1, .slice ya2 T.cuts.length yq2, .slice ya3 T.kids.length yq3, .slice ya4 T.buf.length yq4⟩ T 0 1000 _ (KP.out _ S24.2.out).2).mono ?_; rintro e w25 ⟨v25, rfl, o25, b25⟩; rw [range_all] at o25; have S25 := KS.out _ (Below.and S24.2.out b25); have L25 : Hid (Below v0.heap.size v0 w25) := Below.and L24.out b25; have R25 : Hid (∀ u, Below w25.heap.size w25 u → Row u v25 (mapT T).length (flatP (mapT T))) := fun u hu => (Row.of_owns o25).below hu; clear o25 b25 Q4)
        | (go_at_call 13; refine (implTreeMap_any 8 ⟨T.leaf, .slice ya1 T.pairs.length yq1, .slice ya2 T.cuts.length yq2, .slice ya3 T.kids.length yq3, .slice ya4 T.buf.length yq4⟩ T _ (KP.out _ S25.2.out).2).mono ?_; rintro e w26 ⟨v26, rfl, o26, b26⟩; have S26 := KS.out _ (Below.and S25.2.out b26); have L26 : Hid (Below v0.heap.size v0 w26) := Below.and L25.out b26; have Q6 : Hid (Below w25.heap.size w25 w26) := b26; have R26 : Hid (Row w26 v26 (mapT T).length (flatP (mapT T))) := Row.of_owns o26; have Q5 : Hid True := trivial; clear o26 b26)
        | (have _ := Q1; go_at_call 16; refine (implTreeRange_any 8 ⟨T.leaf, .slice ya1 T.pairs.length yq1, .slice ya2 T.cuts.length yq2, .slice ya3 T.kids.length yq3, .slice ya4 T.buf.length yq4⟩ T (lo + x % 25) hi _ (KP.out _ S21.2.out).2).mono ?_; rintro e w22 ⟨v22, rfl, o22, b22⟩; have S22 := KS.out _ (Below.and S21.2.out b22); have L22 : Hid (Below v0.heap.size v0 w22) := Below.and L21.out b22; have R22 : Hid (Row w22 v22 (rangeT T (lo + x % 25) hi).length (flatP (rangeT T (lo + x % 25) hi))) := Row.of_owns o22; have O22 : Hid (w22.ownsRow U.heap.size 52 2 v21 (rangeT T lo (lo + x % 25)).length (flatP (rangeT T lo (lo + x % 25)))) := owns_chg O21.out (Chg.of_below (F := fun _ => False) b22) (fun _ _ h => h); have Z22 : Hid (U.heap.size ≤ w22.heap.size) := Nat.le_trans Z21.out b22.size; have Q2 : Hid True := trivial; clear o22 b22 Q1)
        | (go_at_call 16; refine (implTreeRange_any 8 ⟨T.leaf, .slice ya1 T.pairs.length yq1, .slice ya2 T.cuts.length yq2, .slice ya3 T.kids.length yq3, .slice ya4 T.buf.length yq4⟩ T lo (lo + x % 25) _ (KP.out _ P0.2.out).2).mono ?_; rintro e w21 ⟨v21, rfl, o21, b21⟩; have S21 := KS.out _ (Below.and P0.2.out b21); have L21 : Hid (Below v0.heap.size v0 w21) := Below.and LU.out b21; have O21 : Hid (w21.ownsRow U.heap.size 52 2 v21 (rangeT T lo (lo + x % 25)).length (flatP (rangeT T lo (lo + x % 25)))) := o21; have Z21 : Hid (U.heap.size ≤ w21.heap.size) := b21.size; have Q1 : Hid True := trivial; clear o21 b21)
        | (refine step_app_row _ rfl _ _ 24 rfl U.heap.size 52 ip _ 2 16 Tryz.underlying24 hip hip0 hip1 hip2 rfl (by decide) v21 (rangeT T lo (lo + x % 25)).length (flatP (rangeT T lo (lo + x % 25))) rfl O22.out v22 (rangeT T (lo + x % 25) hi).length (flatP (rangeT T (lo + x % 25) hi)) rfl R22.out (flatP_length _) (flatP_one _) ROOM.out.1 ROOM.out.2 Z22.out ?_; intro v23 w23 o23 c23 b23; have S23 := KS.out _ ((S22.2.out).trans (b23.mono BUS.out)); have L23 : Hid (Below v0.heap.size v0 w23) := L22.out.trans (b23.mono LVS.out); have R23 : Hid (Row w23 v23 (rangeT T lo hi).length (flatP (rangeT T lo hi))) := SPLIT.out w23 v23 (Row.of_owns o23); have Q3 : Hid True := trivial; clear o23 c23 b23))
      go_wp2
      go_ret
      exact ⟨rfl, Below.and BV.out S28.2.out⟩
  · have hd : decide (bs.length > 1048576) = true := decide_eq_true (by omega)
    subst hv
    go_enter Tryz.func4, Tryz.ntmps4
    go_wp2_with fail
    refine (big_any _ _ _ hle _).mono ?_
    rintro e w0 ⟨rfl, hw0⟩
    subst hw0
    rw [hd]
    go_wp2
    go_ret
    exact ⟨rfl, Below.refl _ _⟩

end Go.Proofs.YtmpiijphpnjlnaaGreat
