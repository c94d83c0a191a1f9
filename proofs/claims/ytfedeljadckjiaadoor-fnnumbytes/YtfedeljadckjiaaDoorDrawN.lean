/-
  The model's drawing of numbers and of rows of bytes: every draw returns, in memory of its own.
-/
import Derived.Test.YtfedeljadckjiaaDoorDrawB
import Derived.Test.YtfedeljadckjiaaDoorNumsOf
namespace Go.Proofs.YtfedeljadckjiaaDoor
open Go.RowKit

set_option maxRecDepth 100000 in
set_option maxHeartbeats 2000000 in
theorem drawPutNum_any (v : Value) (bs : List Int) (w : World) (hc : Code8 w v bs) (hn : bs.length ≤ 1048576) :
    Calls Tryd.prog 18 #[v] w fun e w' => ∃ x : Int, e = .returned (.int .i64 x) ∧ Below w.heap.size w w' := by
  go_enter Tryd.func18, Tryd.ntmps18
  go_wp2_with fail
  refine (l1New_any v bs w hc hn).mono ?_
  rintro e w1 ⟨rfl, c1, s1, b1⟩
  have I1 : Hid _ := And.intro c1 (And.intro s1 b1)
  clear c1 s1 b1
  go_wp2_with fail
  refine (l1Below_any w.heap.size 9999 w1 I1.out.1 (by decide)).mono ?_
  rintro e w2 ⟨y, rfl, _, _, _, c2, g2⟩
  have B2 : Below w.heap.size w w2 := I1.out.2.2.trans (g2.below (fun g _ hg => by omega) I1.out.2.2.size)
  have hs2 : w.heap.size < w2.heap.size := Nat.lt_of_lt_of_le I1.out.2.1 g2.size
  have I2 : Hid _ := And.intro c2 B2
  clear c2 g2 B2
  go_wp2_with fail
  refine (l1PickInt_any w.heap.size w2.heap.size [0, 1, -1, 63, 64, -64, -65, 150, 2000000000, 2000000001, -2000000000, -2000000001, y] (by simp) (by simp) _ (I2.out.1.alloc _) (heap_alloc_new _ _) (by omega)).mono ?_
  rintro e w3 ⟨x, rfl, _, c3, g3⟩
  have B3 : Hid (Below w.heap.size w w3) := (I2.out.2.alloc I2.out.2.size _).trans (g3.below (fun g _ hg => by omega) (by simp; omega))
  clear c3 g3
  go_wp2
  go_ret
  exact ⟨x, rfl, B3.out⟩

theorem OwnB.below' {base : Nat} {w w' : World} {v : Value} {l : List Int} (h : OwnB base w v l) (hb : Below w.heap.size w w') : OwnB base w' v l := owns_below h hb

theorem wrap8_in (z : Int) : 0 ≤ IntKind.u8.wrap z ∧ IntKind.u8.wrap z ≤ 255 := by rw [IntKind.wrap_u8]; omega

set_option maxRecDepth 100000 in
set_option maxHeartbeats 4000000 in
theorem drawGetNum_any (v : Value) (bs : List Int) (w : World) (hc : Code8 w v bs) (hn : bs.length ≤ 1048576) :
    Calls Tryd.prog 23 #[v] w fun e w' => ∃ (v' : Value) (R : List Int) (k : Int), e = .returned (.tuple #[v', .int .i64 k]) ∧ OwnB w.heap.size w' v' R ∧ inByte R ∧ R.length ≤ 20 ∧ Below w.heap.size w w' := by
  obtain ⟨i0, hi, hz0, hz1, hz2⟩ := info_parts Tryd.infoByte
  go_enter Tryd.func23, Tryd.ntmps23
  go_wp2_with fail
  refine (l1New_any v bs w hc hn).mono ?_
  rintro e w1 ⟨rfl, c1, s1, b1⟩
  have I1 : Hid _ := And.intro c1 (And.intro s1 b1)
  clear c1 s1 b1
  go_wp2_with fail
  refine (l1Below_any w.heap.size 300 w1 I1.out.1 (by decide)).mono ?_
  rintro e w2 ⟨y, rfl, hy0, hy1, _, c2, g2⟩
  have hy2 : y ≤ 300 := by have := hy1 (by decide); omega
  have B2 : Below w.heap.size w w2 := I1.out.2.2.trans (g2.below (fun g _ hg => by omega) I1.out.2.2.size)
  have hs2 : w.heap.size + 1 ≤ w2.heap.size := Nat.lt_of_lt_of_le I1.out.2.1 g2.size
  have I2 : Hid _ := And.intro c2 B2
  clear c2 g2 B2 hy1 I1
  go_wp2_with fail
  refine (specPutNum_any (y - 100) w2).mono ?_
  rintro e w3 ⟨v3, rfl, o3, b3⟩
  have hl3 := putN_length (y - 100)
  have hb3 := putN_byte (y - 100)
  have B3 : Below w.heap.size w w3 := Below.and I2.out.2 b3
  have hs3 : w.heap.size + 1 ≤ w3.heap.size := Nat.le_trans hs2 b3.size
  have I3 : Hid _ := And.intro (I2.out.1.below b3) (And.intro B3 (And.intro (owns_mono (base' := w.heap.size + 1) o3 hs2) hb3))
  generalize putN (y - 100) = P1 at *
  clear o3 b3 B3 I2 hb3
  go_wp2_with fail
  refine (l1PickInt_any w.heap.size w3.heap.size [5, 99999, 2000000000] (by simp) (by simp) _ (I3.out.1.alloc _) (heap_alloc_new _ _) (by omega)).mono ?_
  rintro e w4 ⟨z, rfl, _, c4, g4⟩
  have o4 : OwnB (w.heap.size + 1) w4 v3 P1 := owns_chg (owns_below I3.out.2.2.1 (bel_new _ _)) g4 (fun g hg e => by have := (World.ownsRow.lt I3.out.2.2.1 g hg).1; omega)
  have B4 : Below w.heap.size w w4 := (I3.out.2.1.alloc I3.out.2.1.size _).trans (g4.below (fun g _ hg => by omega) (by simp; omega))
  have hs4 : w.heap.size + 1 ≤ w4.heap.size := Nat.le_trans hs3 (Nat.le_trans (by simp) g4.size)
  have I4 : Hid _ := And.intro c4 (And.intro B4 (And.intro o4 I3.out.2.2.2))
  clear c4 g4 o4 B4 I3
  go_wp2_with fail
  refine (specPutNum_any z w4).mono ?_
  rintro e w5 ⟨v5, rfl, o5, b5⟩
  have hl5 := putN_length z
  have hb5 := putN_byte z
  have B5 : Below w.heap.size w w5 := Below.and I4.out.2.1 b5
  have hs5 : w.heap.size + 1 ≤ w5.heap.size := Nat.le_trans hs4 b5.size
  have I5 : Hid _ := And.intro (I4.out.1.below b5) (And.intro B5 (And.intro (OwnB.below' I4.out.2.2.1 b5) (And.intro I4.out.2.2.2 (And.intro (Row.of_owns o5) hb5))))
  generalize putN z = P2 at *
  obtain ⟨a5, q5, rfl, _, _⟩ := owns_shape o5
  obtain ⟨a3, q3, rfl, _, _⟩ := owns_shape I5.out.2.2.1
  clear o5 b5 B5 I4 hb5
  have HR : Hid _ := roomB (n := P1.length) (m := P2.length) (by omega)
  go_wp2_with (at_builtin; refine app_row w5 rfl _ _ 22 rfl (w.heap.size + 1) 5 i0 _ 1 1 Tryd.underlying22 hi hz0 hz1 hz2 rfl (by decide) (.slice a3 P1.length q3) P1.length (flatB P1) rfl I5.out.2.2.1 (.slice a5 P2.length q5) P2.length (flatB P2) rfl I5.out.2.2.2.2.1 (by rw [flatB_length]; omega) (flatB_one _) HR.out.1 HR.out.2 hs5 ?_)
  intro v6 w6 ho6 g6 hb6
  have o6 : OwnB (w.heap.size + 1) w6 v6 (P1 ++ P2) := by unfold OwnB; rw [flatB_append]; simpa using ho6
  have c6 : Cur w6 w.heap.size := I5.out.1.chg g6 (fun g hg => by have := (World.ownsRow.lt I5.out.2.2.1 g hg).1; omega)
  have B6 : Below w.heap.size w w6 := I5.out.2.1.trans (hb6.mono (by omega))
  have hB : inByte (P1 ++ P2) := fun b hb => by
    rcases List.mem_append.1 hb with h | h
    · exact I5.out.2.2.2.1 b h
    · exact I5.out.2.2.2.2.2 b h
  have hl6 : (P1 ++ P2).length ≤ 10 := by simp; omega
  have hs6 : w.heap.size + 1 ≤ w6.heap.size := Nat.le_trans hs5 g6.size
  generalize P1 ++ P2 = R0 at *
  have I6 : Hid _ := And.intro c6 (And.intro o6 (And.intro hB B6))
  obtain ⟨a6, q6, rfl, _, _⟩ := owns_shape o6
  clear c6 o6 hB B6 ho6 g6 hb6 I5
  go_wp2_with fail
  refine (l1Below_any w.heap.size 8 _ I6.out.1 (by decide)).mono ?_
  rintro e w7 ⟨s, rfl, hs0, hs1, _, c7, g7⟩
  have I7 : Hid (Cur w7 w.heap.size ∧ OwnB (w.heap.size + 1) w7 (.slice a6 R0.length q6) R0 ∧ inByte R0 ∧ Below w.heap.size w w7) :=
    ⟨c7, owns_chg I6.out.2.1 g7 (fun g hg e => by have := (World.ownsRow.lt I6.out.2.1 g hg).1; omega), I6.out.2.2.1, I6.out.2.2.2.trans (g7.below (fun g _ hg => by omega) I6.out.2.2.2.size)⟩
  have hs7 : w.heap.size + 1 ≤ w7.heap.size := Nat.le_trans hs6 g7.size
  clear c7 g7 I6 hs1
  by_cases h0 : s = 0
  · have d0 : (s == 0) = true := by simp [h0]
    clear h0
    go_wp2_with fail
    refine (l1Byte_any w.heap.size _ I7.out.1).mono ?_
    rintro e w8 ⟨y8, rfl, hy80, hy81, c8, g8⟩
    have w8e : IntKind.u8.wrap y8 = y8 := by rw [IntKind.wrap_u8]; omega
    have o8 : OwnB (w.heap.size + 1) w8 (.slice a6 R0.length q6) R0 := owns_chg I7.out.2.1 g8 (fun g hg e => by have := (World.ownsRow.lt I7.out.2.1 g hg).1; omega)
    have B8 : Below w.heap.size w w8 := I7.out.2.2.2.trans (g8.below (fun g _ hg => by omega) I7.out.2.2.2.size)
    have hs8 : w.heap.size + 1 ≤ w8.heap.size := Nat.le_trans hs7 g8.size
    have J8 : Hid (OwnB (w.heap.size + 1) (w8.alloc (.cells #[.int .u8 128, .int .u8 y8] 5)) (.slice a6 R0.length q6) R0 ∧ Row (w8.alloc (.cells #[.int .u8 128, .int .u8 y8] 5)) (.slice (some ⟨w8.heap.size, 0, none⟩) 2 2) 2 (flatB [128, y8]) ∧ Cur (w8.alloc (.cells #[.int .u8 128, .int .u8 y8] 5)) w.heap.size ∧ Below w.heap.size w (w8.alloc (.cells #[.int .u8 128, .int .u8 y8] 5))) :=
      ⟨owns_below o8 (bel_new _ _), Row.laidN w8 (flatB [128, y8]) 5 2 rfl (by decide), c8.alloc _, B8.alloc B8.size _⟩
    have HR8 : Hid _ := roomB (n := R0.length) (m := 2) (by omega)
    have hs8' : w.heap.size + 1 ≤ (w8.alloc (.cells #[.int .u8 128, .int .u8 y8] 5)).heap.size := by simp; omega
    clear o8 B8 c8 g8
    go_wp2_with (at_builtin; refine app_row (w8.alloc (.cells #[.int .u8 128, .int .u8 y8] 5)) rfl _ _ 22 rfl (w.heap.size + 1) 5 i0 _ 1 1 Tryd.underlying22 hi hz0 hz1 hz2 rfl (by decide) (.slice a6 R0.length q6) R0.length (flatB R0) rfl J8.out.1 (.slice (some ⟨w8.heap.size, 0, none⟩) 2 2) 2 (flatB [128, y8]) rfl J8.out.2.1 rfl (flatB_one _) HR8.out.1 HR8.out.2 hs8' ?_)
    intro v9 w9 ho9 g9 hb9
    have o9 : OwnB (w.heap.size + 1) w9 v9 (R0 ++ [128, y8]) := by unfold OwnB; rw [flatB_append]; simpa using ho9
    have c9 : Cur w9 w.heap.size := J8.out.2.2.1.chg g9 (fun g hg => by have := (World.ownsRow.lt J8.out.1 g hg).1; omega)
    have B9 : Below w.heap.size w w9 := J8.out.2.2.2.trans (hb9.mono (by omega))
    have hB9 : inByte (R0 ++ [128, y8]) := fun b hb => by
      rcases List.mem_append.1 hb with h | h
      · exact I7.out.2.2.1 b h
      · simp at h; omega
    have hlR : (R0 ++ [128, y8]).length ≤ 20 := by simp; omega
    generalize R0 ++ [128, y8] = RR at *
    obtain ⟨aR, qR, rfl, _, _⟩ := owns_shape o9
    have TC : Hid _ := And.intro c9 (And.intro o9 (And.intro hB9 B9))
    clear c9 o9 hB9 B9 ho9 g9 hb9 J8 hs8'
    go_wp2_with fail
    refine (l1Below_any w.heap.size _ _ TC.out.1 (by omega)).mono ?_
    rintro e wt ⟨i1, rfl, hi0, hi1, _, ct, gt⟩
    have TB : Hid _ := And.intro ct gt
    have hi2 : i1 ≤ 30 := by have := hi1 (by omega); omega
    clear ct gt hi1
    go_wp2_with fail
    refine (l1Below_any w.heap.size 20 _ TB.out.1 (by decide)).mono ?_
    rintro e wu ⟨i2, rfl, hj0, hj1, _, cu, gu⟩
    have hj2 : i2 ≤ 19 := by have := hj1 (by decide); omega
    have TU : Hid (OwnB (w.heap.size + 1) wu (.slice aR RR.length qR) RR ∧ Below w.heap.size w wu) :=
      ⟨owns_chg (owns_chg TC.out.2.1 TB.out.2 (fun g hg e => by have := (World.ownsRow.lt TC.out.2.1 g hg).1; omega)) gu (fun g hg e => by have := (World.ownsRow.lt TC.out.2.1 g hg).1; omega),
       (TC.out.2.2.2.trans (TB.out.2.below (fun g _ hg => by omega) TC.out.2.2.2.size)).trans (gu.below (fun g _ hg => by omega) (Nat.le_trans TC.out.2.2.2.size TB.out.2.size))⟩
    clear cu gu hj1
    go_wp2
    refine bodyPost_ret (v := .tuple #[.slice aR RR.length qR, .int .i64 (i1 - i2 / 19)]) (by simp [results, Tryd.results23, go_sem]) rfl ⟨_, RR, _, rfl, owns_mono TU.out.1 (by omega), TC.out.2.2.1, (by first | omega | simp), TU.out.2⟩
  · have d0 : (s == 0) = false := by simp [h0]
    by_cases h1 : s = 1
    · have d1 : (s == 1) = true := by simp [h1]
      clear h0 h1
      go_wp2_with fail
      refine (l1PickInt_any w.heap.size w7.heap.size [7, 14, 15, 127, 128] (by simp) (by simp) _ (I7.out.1.alloc _) (heap_alloc_new _ _) (by omega)).mono ?_
      rintro e w8 ⟨y8, rfl, _, c8, g8⟩
      have hw8 := wrap8_in y8
      have B8 : Below w.heap.size w w8 := (I7.out.2.2.2.alloc I7.out.2.2.2.size _).trans (g8.below (fun g _ hg => by omega) (by simp; omega))
      have hs8 : w.heap.size + 1 ≤ w8.heap.size := Nat.le_trans hs7 (Nat.le_trans (by simp) g8.size)
      generalize hw8e : IntKind.u8.wrap y8 = y9 at *
      have W8E : IntKind.u8.wrap y8 = y9 := hw8e
      clear hw8e
      have TC : Hid (Cur (w8.alloc (.cells #[.int .u8 255, .int .u8 255, .int .u8 255, .int .u8 255, .int .u8 y9, .int .u8 1] 5)) w.heap.size ∧ OwnB (w.heap.size + 1) (w8.alloc (.cells #[.int .u8 255, .int .u8 255, .int .u8 255, .int .u8 255, .int .u8 y9, .int .u8 1] 5)) (.slice (some ⟨w8.heap.size, 0, none⟩) 6 6) [255, 255, 255, 255, y9, 1] ∧ inByte [255, 255, 255, 255, y9, 1] ∧ Below w.heap.size w (w8.alloc (.cells #[.int .u8 255, .int .u8 255, .int .u8 255, .int .u8 255, .int .u8 y9, .int .u8 1] 5))) :=
        ⟨c8.alloc _, ⟨by simp [flatB], .inr ⟨w8.heap.size, 6, (flatB [255, 255, 255, 255, y9, 1]).toArray, rfl, hs8, heap_alloc_new w8 _, Nat.le_refl _, by decide, by simp [flatB], by simp [flatB]⟩⟩, fun b hb => by simp at hb; omega, B8.alloc B8.size _⟩
      clear c8 g8 B8
      go_wp2_with fail
      refine (l1Below_any w.heap.size _ _ TC.out.1 (by omega)).mono ?_
      rintro e wt ⟨i1, rfl, hi0, hi1, _, ct, gt⟩
      have TB : Hid _ := And.intro ct gt
      have hi2 : i1 ≤ 30 := by have := hi1 (by omega); omega
      clear ct gt hi1
      go_wp2_with fail
      refine (l1Below_any w.heap.size 20 _ TB.out.1 (by decide)).mono ?_
      rintro e wu ⟨i2, rfl, hj0, hj1, _, cu, gu⟩
      have hj2 : i2 ≤ 19 := by have := hj1 (by decide); omega
      have TU : Hid (OwnB (w.heap.size + 1) wu (.slice (some ⟨w8.heap.size, 0, none⟩) 6 6) [255, 255, 255, 255, y9, 1] ∧ Below w.heap.size w wu) :=
        ⟨owns_chg (owns_chg TC.out.2.1 TB.out.2 (fun g hg e => by have := (World.ownsRow.lt TC.out.2.1 g hg).1; omega)) gu (fun g hg e => by have := (World.ownsRow.lt TC.out.2.1 g hg).1; omega),
         (TC.out.2.2.2.trans (TB.out.2.below (fun g _ hg => by omega) TC.out.2.2.2.size)).trans (gu.below (fun g _ hg => by omega) (Nat.le_trans TC.out.2.2.2.size TB.out.2.size))⟩
      clear cu gu hj1
      go_wp2
      refine bodyPost_ret (v := .tuple #[.slice (some ⟨w8.heap.size, 0, none⟩) 6 6, .int .i64 (i1 - i2 / 19)]) (by simp [results, Tryd.results23, go_sem]) rfl ⟨_, [255, 255, 255, 255, y9, 1], _, rfl, owns_mono TU.out.1 (by omega), TC.out.2.2.1, (by first | omega | simp), TU.out.2⟩
    · have d1 : (s == 1) = false := by simp [h1]
      clear h0 h1
      have TC : Hid _ := I7.out
      have hlR : R0.length ≤ 20 := by omega
      go_wp2_with fail
      refine (l1Below_any w.heap.size _ _ TC.out.1 (by omega)).mono ?_
      rintro e wt ⟨i1, rfl, hi0, hi1, _, ct, gt⟩
      have TB : Hid _ := And.intro ct gt
      have hi2 : i1 ≤ 30 := by have := hi1 (by omega); omega
      clear ct gt hi1
      go_wp2_with fail
      refine (l1Below_any w.heap.size 20 _ TB.out.1 (by decide)).mono ?_
      rintro e wu ⟨i2, rfl, hj0, hj1, _, cu, gu⟩
      have hj2 : i2 ≤ 19 := by have := hj1 (by decide); omega
      have TU : Hid (OwnB (w.heap.size + 1) wu (.slice a6 R0.length q6) R0 ∧ Below w.heap.size w wu) :=
        ⟨owns_chg (owns_chg TC.out.2.1 TB.out.2 (fun g hg e => by have := (World.ownsRow.lt TC.out.2.1 g hg).1; omega)) gu (fun g hg e => by have := (World.ownsRow.lt TC.out.2.1 g hg).1; omega),
         (TC.out.2.2.2.trans (TB.out.2.below (fun g _ hg => by omega) TC.out.2.2.2.size)).trans (gu.below (fun g _ hg => by omega) (Nat.le_trans TC.out.2.2.2.size TB.out.2.size))⟩
      clear cu gu hj1
      go_wp2
      refine bodyPost_ret (v := .tuple #[.slice a6 R0.length q6, .int .i64 (i1 - i2 / 19)]) (by simp [results, Tryd.results23, go_sem]) rfl ⟨_, R0, _, rfl, owns_mono TU.out.1 (by omega), TC.out.2.2.1, (by first | omega | simp), TU.out.2⟩

end Go.Proofs.YtfedeljadckjiaaDoor
