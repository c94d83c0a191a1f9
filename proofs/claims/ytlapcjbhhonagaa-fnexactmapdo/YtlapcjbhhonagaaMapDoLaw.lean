/-
  The walk of the law FnExactMapDo.
-/
import Derived.Test.YtlapcjbhhonagaaImplAll
import Derived.Test.YtlapcjbhhonagaaSpecAll
namespace Go.Proofs.Ytlapcjbhhonagaa
open Go.RowKit

theorem owns_ne {w : World} {base e size n : Nat} {v : Value} {xs : List Value} (h : w.ownsRow base e size v n xs) {F : Nat → Prop} (hF : ∀ g, base ≤ g → ¬ F g) : ∀ g, v.ownBlock = some g → ¬ F g := fun g hg => hF g (h.lt g hg).1

set_option maxRecDepth 100000 in
set_option maxHeartbeats 4000000 in
theorem fnExactMapDo_any (v : Value) (l : PL) (o k y : Int) (w : World) (h : Row w v l.length (flatP l)) :
    Calls Try.prog 9 #[v, .agg #[.int .i64 o, .int .i64 k, .int .i64 y]] w fun e w' => e = .returned (.bool true) ∧ Below w.heap.size w w' := by
  obtain ⟨a, b, off, cap, hv, hcap, hmax, _⟩ := h.pairs
  have hle : l.length ≤ maxLen := Nat.le_trans hcap hmax
  have b0 : Below w.heap.size w (w.alloc (.cells #[.int .i64 o, .int .i64 k, .int .i64 y] 45)) := (Below.refl _ _).alloc (Nat.le_refl _) _
  by_cases hbig : l.length ≤ 1048576
  · have hn : (l.length : Int) ≤ 1048576 := by omega
    have RA : Hid (Row (w.alloc (.cells #[.int .i64 o, .int .i64 k, .int .i64 y] 45)) v l.length (flatP l)) := h.below b0
    have B0 : Hid _ := b0
    clear h b0
    have hbx : Hid _ := heap_alloc_new w (.cells #[.int .i64 o, .int .i64 k, .int .i64 y] 45)
    rw [hv] at RA ⊢
    go_enter Try.func9, Try.ntmps9
    go_wp2_with fail
    refine (szPairS_any _ _ _ _ hle (by omega) (by omega) _).mono ?_
    rintro e w0 ⟨rfl, hw0⟩
    subst hw0
    generalize hW0 : w.alloc (.cells #[.int .i64 o, .int .i64 k, .int .i64 y] 45) = W0 at *
    have hwl : w.heap.size < W0.heap.size := by rw [← hW0]; simp
    clear hW0
    have hx0 : W0.cell? ⟨w.heap.size, 0, none⟩ = some (.int .i64 o) := by rw [cell_of_cells hbx.out]; rfl
    have hx1 : W0.cell? ⟨w.heap.size, 1, none⟩ = some (.int .i64 k) := by rw [cell_of_cells hbx.out]; rfl
    have hx2 : W0.cell? ⟨w.heap.size, 2, none⟩ = some (.int .i64 y) := by rw [cell_of_cells hbx.out]; rfl
    generalize hdl : doL l (o, k, y) = D
    have hDl : D.length ≤ 1048577 := by have := doL_length l (o, k, y); rw [hdl] at this; omega
    have HD : Hid _ := hdl
    clear hdl
    go_wp2_with fail
    go_region_with (first
      | (go_at_call 34; refine (toPairS_any _ l _ (by exact RA.out.below (Below.refl _ _).drew) hbig).mono ?_; rintro e w1 ⟨v1, rfl, o1, b1⟩; have y0 := (b1.cell (p := ⟨w.heap.size, 0, none⟩) (by exact hwl)).trans hx0; have y1 := (b1.cell (p := ⟨w.heap.size, 1, none⟩) (by exact hwl)).trans hx1; have y2 := (b1.cell (p := ⟨w.heap.size, 2, none⟩) (by exact hwl)).trans hx2)
      | (go_at_call 32; refine (toMsg_any _ _ _ _).mono ?_; rintro e w2 ⟨rfl, b2⟩)
      | (go_at_call 23; refine (specMapDo_any _ l _ _ _ _ (by exact (Row.of_owns o1).below b2) (by omega)).mono ?_; rintro e w3 ⟨v3, rfl, o3, b3⟩))
    all_goals
      rw [HD.out] at o3
      have B1 : Below W0.heap.size W0 w1 := (Below.refl _ W0).drew.trans b1
      have B3 : Below W0.heap.size W0 w3 := Below.and (Below.and B1 b2) b3
      have O3 := owns_mono (base' := 0) o3 (Nat.zero_le _)
      have L3 : ∀ g, v3.ownBlock = some g → W0.heap.size ≤ g ∧ g < w3.heap.size := fun g hg => ⟨Nat.le_trans (Below.and B1 b2).size (o3.lt g hg).1, (o3.lt g hg).2⟩
      have I3 : Hid _ := And.intro B3 (And.intro O3 L3)
      clear o1 b1 b2 b3 o3 y0 y1 y2 B1 B3 O3 L3
      go_wp2_with fail
      refine (toPairS_any _ l _ (RA.out.below I3.out.1) hbig).mono ?_
      rintro e w4 ⟨v4, rfl, o4, b4⟩
      have B4 : Below W0.heap.size W0 w4 := Below.and I3.out.1 b4
      have z0 := (B4.cell (p := ⟨w.heap.size, 0, none⟩) (by exact hwl)).trans hx0
      have z1 := (B4.cell (p := ⟨w.heap.size, 1, none⟩) (by exact hwl)).trans hx1
      have z2 := (B4.cell (p := ⟨w.heap.size, 2, none⟩) (by exact hwl)).trans hx2
      have I4 : Hid _ := And.intro B4 (And.intro o4 b4)
      clear o4 b4 B4
      go_wp2_with fail
      refine (toMsg_any _ _ _ _).mono ?_
      rintro e w5 ⟨rfl, b5⟩
      have R5 := (Row.of_owns I4.out.2.1).below b5
      have I5 : Hid _ := b5
      clear b5 z0 z1 z2
      go_wp2_with fail
      refine (implMapDo_any _ l _ _ _ _ R5 (by omega)).mono ?_
      rintro e w6 ⟨v6, rfl, o6, b6⟩
      rw [HD.out] at o6
      clear R5
      have b46 : Below w4.heap.size w4 w6 := Below.and I5.out b6
      have b36 : Below w3.heap.size w3 w6 := Below.and I4.out.2.2 b46
      have B6 : Below W0.heap.size W0 w6 := Below.and I3.out.1 b36
      have o36 := owns_below I3.out.2.1 b36
      have o46 := owns_below I4.out.2.1 b46
      have L46 : ∀ g, v4.ownBlock = some g → w3.heap.size ≤ g ∧ g < w4.heap.size := fun g hg => I4.out.2.1.lt g hg
      have L6 : ∀ g, v6.ownBlock = some g → w4.heap.size ≤ g ∧ g < w6.heap.size := fun g hg => ⟨Nat.le_trans I5.out.size (o6.lt g hg).1, (o6.lt g hg).2⟩
      have O6 := owns_mono (base' := 0) o6 (Nat.zero_le _)
      have hs34 : w3.heap.size ≤ w4.heap.size := I4.out.2.2.size
      have hs03 : W0.heap.size ≤ w3.heap.size := I3.out.1.size
      have R36 := Row.of_owns o36
      have R6 := Row.of_owns O6
      have L3 := I3.out.2.2
      have J : Hid _ := And.intro B6 (And.intro o36 (And.intro (owns_mono (base' := 0) o46 (Nat.zero_le _)) (And.intro O6 (And.intro L3 (And.intro L46 L6)))))
      have J2 : Hid _ := And.intro hs34 hs03
      clear o6 b6 b46 b36 B6 o36 o46 L46 L6 O6 I3 I4 I5 hs34 hs03 L3
      go_wp2_with fail
      refine (eqPairS_any _ _ D D _ R6 R36).mono ?_
      rintro e w7 ⟨rfl, b7⟩
      clear R6 R36
      have B7 : Hid _ := b7
      clear b7
      go_wp2_with fail
      refine (toPairS_any _ l _ (RA.out.below (Below.and J.out.1 B7.out)) hbig).mono ?_
      rintro e w8 ⟨v8, rfl, o8, b8⟩
      have R8 := Row.of_owns o8
      have b78 : Below w6.heap.size w6 w8 := Below.and B7.out b8
      have R48 := Row.of_owns (owns_below J.out.2.2.1 b78)
      have B8 : Hid _ := b78
      clear o8 b8 b78
      go_wp2_with fail
      refine (eqPairS_any _ _ l l _ R48 R8).mono ?_
      rintro e w9 ⟨rfl, b9⟩
      have b69 : Below w6.heap.size w6 w9 := Below.and B8.out b9
      have B9 : Hid _ := b69
      have o49 := owns_below J.out.2.2.1 b69
      clear R8 R48 b9 b69 B8 B7
      go_wp2_with fail
      refine (markPairS_any _ l 1 _ o49 (by omega) (by decide) (by decide)).mono ?_
      rintro e w10 ⟨rfl, o410, c10⟩
      obtain ⟨B6, o36, o46, O6, L3, L4, L6⟩ := J.out
      obtain ⟨hs34, hs03⟩ := J2.out
      have d3 : ∀ g, v3.ownBlock = some g → ¬ v4.ownBlock = some g := fun g h1 h2 => by have := (L3 g h1).2; have := (L4 g h2).1; omega
      have d6 : ∀ g, v6.ownBlock = some g → ¬ v4.ownBlock = some g := fun g h1 h2 => by have := (L6 g h1).1; have := (L4 g h2).2; omega
      have d36 : ∀ g, v3.ownBlock = some g → ¬ v6.ownBlock = some g := fun g h1 h2 => by have := (L3 g h1).2; have := (L6 g h2).1; omega
      have o310 := owns_chg (owns_below o36 B9.out) c10 d3
      have o610 := owns_chg (owns_below O6 B9.out) c10 d6
      have B10 : Below W0.heap.size W0 w10 := (Below.and B6 B9.out).trans (c10.below (fun g _ hg => by have := (L4 g hg).1; omega) (by have := (Below.and B6 B9.out).size; omega))
      have R310 := Row.of_owns o310
      have R610 := Row.of_owns o610
      have K : Hid _ := And.intro B10 (And.intro o310 (And.intro o610 (And.intro d36 (And.intro L6 L3))))
      have KS : Hid (W0.heap.size ≤ w4.heap.size) := by show _ ≤ _; omega
      clear B6 o36 o46 O6 L3 L4 L6 d3 d6 d36 o310 o610 B10 o410 c10 o49 B9 J J2 hs34 hs03
      go_wp2_with fail
      refine (eqPairS_any _ _ D D _ R610 R310).mono ?_
      rintro e w11 ⟨rfl, b11⟩
      have o611 := owns_below K.out.2.2.1 b11
      have K11 : Hid _ := And.intro (Below.and K.out.1 b11) (owns_below K.out.2.1 b11)
      clear R610 R310 b11
      go_wp2_with fail
      refine (markPairS_any _ D 1 _ o611 (by omega) (by decide) (by decide)).mono ?_
      rintro e w12 ⟨rfl, o612, c12⟩
      have o312 := owns_chg K11.out.2 c12 K.out.2.2.2.1
      have B12 : Below W0.heap.size W0 w12 := K11.out.1.trans (c12.below (fun g _ hg => by have := (K.out.2.2.2.2.1 g hg).1; have := KS.out; omega) (by have := K11.out.1.size; omega))
      have R612 : Row w12 v6 D.length (flatP (marksP 1 D.length)) := Row.of_owns o612
      have M : Hid _ := And.intro B12 (And.intro o312 R612)
      clear o312 B12 o612 c12 o611 K11 K KS
      go_wp2_with fail
      refine (heldPairS_any _ D.length 1 _ R612 (by omega) (by decide) (by decide)).mono ?_
      rintro e w13 ⟨rfl, hw13⟩
      subst hw13
      clear R612
      have z0 := (M.out.1.cell (p := ⟨w.heap.size, 0, none⟩) (by exact hwl)).trans hx0
      have z1 := (M.out.1.cell (p := ⟨w.heap.size, 1, none⟩) (by exact hwl)).trans hx1
      have z2 := (M.out.1.cell (p := ⟨w.heap.size, 2, none⟩) (by exact hwl)).trans hx2
      have hw12 : w.heap.size < w13.heap.size := Nat.lt_of_lt_of_le hwl M.out.1.size
      go_wp2_with fail
      go_region_with (first
        | (go_at_call 34; refine (toPairS_any _ l _ (by exact RA.out.below M.out.1.drew) hbig).mono ?_; rintro e w14 ⟨v14, rfl, o14, b14⟩; have y0 := (b14.cell (p := ⟨w.heap.size, 0, none⟩) (by exact hw12)).trans z0; have y1 := (b14.cell (p := ⟨w.heap.size, 1, none⟩) (by exact hw12)).trans z1; have y2 := (b14.cell (p := ⟨w.heap.size, 2, none⟩) (by exact hw12)).trans z2)
        | (go_at_call 32; refine (toMsg_any _ _ _ _).mono ?_; rintro e w15 ⟨rfl, b15⟩)
        | (go_at_call 22; refine (implMapDo_any _ l _ _ _ _ (by exact (Row.of_owns o14).below b15) (by omega)).mono ?_; rintro e w16 ⟨v16, rfl, o16, b16⟩))
      all_goals
        rw [HD.out] at o16
        have B14 : Below w13.heap.size w13 w14 := (Below.refl _ w13).drew.trans b14
        have b1216 : Below w13.heap.size w13 w16 := Below.and (Below.and B14 b15) b16
        have R16 := Row.of_owns o16
        have R316 := Row.of_owns (owns_below M.out.2.1 b1216)
        have P : Hid _ := b1216
        clear B14 b1216 b14 b15 b16 o14 o16 y0 y1 y2
        go_wp2_with fail
        refine (eqPairS_any _ _ D D _ R16 R316).mono ?_
        rintro e w17 ⟨rfl, b17⟩
        have b1217 : Below w13.heap.size w13 w17 := Below.and P.out b17
        have R617 := M.out.2.2.below b1217
        have P2 : Hid _ := b1217
        clear R16 R316 b17 b1217
        go_wp2_with fail
        refine (heldPairS_any _ D.length 1 _ R617 (by omega) (by decide) (by decide)).mono ?_
        rintro e w18 ⟨rfl, hw18⟩
        subst hw18
        clear R617
        go_wp2
        go_ret
        exact ⟨rfl, B0.out.trans ((Below.and M.out.1 P2.out).mono B0.out.size)⟩
  · have hn : ¬ (l.length : Int) ≤ 1048576 := by omega
    rw [hv]
    go_enter Try.func9, Try.ntmps9
    go_wp2_with fail
    refine (szPairS_any _ _ _ _ hle (by omega) (by omega) _).mono ?_
    rintro e w0 ⟨rfl, hw0⟩
    subst hw0
    go_wp2
    go_ret
    exact ⟨rfl, b0⟩

end Go.Proofs.Ytlapcjbhhonagaa
