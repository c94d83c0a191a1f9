/-
  LogCut of the model.
-/
import Derived.Test.YteegcblndbljlaaLogCut
namespace Go.Proofs.Yteegcblndbljlaa
open Go.RowKit

theorem far_i64c {b i : Int} {n : Nat} (hb : I64 b) (hi : I64 i) (h : b < i) (hn : ¬ i - b - 1 < n) : inB (wrap64 (i - b)) 1 (n : Int) = false := by
  unfold I64 at hb hi
  unfold wrap64 inB
  simp only [decide_eq_false_iff_not]
  omega

set_option maxRecDepth 100000 in
set_option maxHeartbeats 4000000 in
theorem specLogCut_any (b bt : Int) (v : Value) (l : EL) (i : Int) (w : World) (h : Row w v l.length (flatE l)) (hb : I64 b) (hi : I64 i) (hs : l.length ≤ 2097152) :
    Calls Try.prog 23 #[lgV b bt v, .int .i64 i] w fun e w' => ∃ v', e = .returned (lgV (lcB b l i) (lcT b bt l i) v') ∧ OwnE w' w.heap.size 39 6 v' (lcL b l i).length (flatE (lcL b l i)) ∧ Below w.heap.size w w' := by
  have CC : Hid (∀ u, Below w.heap.size w u → Calls Try.prog 53 #[lgV b bt v] u fun e w' => ∃ v', e = .returned (lgV b bt v') ∧ OwnE w' u.heap.size 39 6 v' l.length (flatE l) ∧ Below u.heap.size u w') := fun u hu => l8Copy_any b bt v l u (Row.below h hu) hs
  have R0 : Hid (∀ u, Below w.heap.size w u → Row u v l.length (flatE l)) := fun u hu => Row.below h hu
  obtain ⟨i0, hi0, hz0, hz1, hz2⟩ := info_parts Try.info39
  obtain ⟨a, bb, off, cap, rfl, hcap, hmax, ha, hx0, -⟩ := h.ents
  unfold maxLen at hmax
  have N1 : Hid (MBox 26 ((w.alloc (.cells #[.int .i64 b, .int .i64 bt, .slice a l.length cap] 26)).alloc (.cells #[.int .i64 0, .int .i64 0, .slice none 0 0] 26)) w.heap.size #[.int .i64 b, .int .i64 bt, .slice a l.length cap]) := (MBox.start _ _ _).step (bel_nw _ _)
  have N2 : Hid (MBox 26 ((w.alloc (.cells #[.int .i64 b, .int .i64 bt, .slice a l.length cap] 26)).alloc (.cells #[.int .i64 0, .int .i64 0, .slice none 0 0] 26)) (w.heap.size + 1) #[.int .i64 0, .int .i64 0, .slice none 0 0]) := by
    have := MBox.start 26 (w.alloc (.cells #[.int .i64 b, .int .i64 bt, .slice a l.length cap] 26)) #[.int .i64 0, .int .i64 0, .slice none 0 0]
    rw [World.size_alloc] at this
    exact this
  have B2 : Hid (Below w.heap.size w ((w.alloc (.cells #[.int .i64 b, .int .i64 bt, .slice a l.length cap] 26)).alloc (.cells #[.int .i64 0, .int .i64 0, .slice none 0 0] 26))) := Below.and (bel_nw _ _) (bel_nw _ _)
  have ZZ : Hid (((w.alloc (.cells #[.int .i64 b, .int .i64 bt, .slice a l.length cap] 26)).alloc (.cells #[.int .i64 0, .int .i64 0, .slice none 0 0] 26)).heap.size = w.heap.size + 2) := by show _ = _; simp
  have c1 := N1.out.cells
  have HI : Hid (I64 b ∧ I64 i) := ⟨hb, hi⟩
  have HP : Hid (Row w (.slice a l.length cap) l.length (flatE l)) := h
  clear h hb hi
  by_cases h1 : i ≤ b
  · have E : Hid _ := cut_none (bt := bt) (placeB_le (l := l) h1)
    clear hx0 ha
    go_enter Try.func23, Try.ntmps23
    go_wp2_with fail
    generalize ((w.alloc (.cells #[.int .i64 b, .int .i64 bt, .slice a l.length cap] 26)).alloc (.cells #[.int .i64 0, .int .i64 0, .slice none 0 0] 26)) = W at *
    refine (CC.out _ B2.out).mono ?_
    rintro e w1 ⟨v2, rfl, o2, b1⟩
    obtain ⟨a5, q5, hv2⟩ := OwnE.slice o2
    subst hv2
    have bn := bel_nw w1 (.cells #[.int .i64 b, .int .i64 bt, .slice a5 l.length q5] 26)
    have B3 : Hid (Below w.heap.size w (w1.alloc (.cells #[.int .i64 b, .int .i64 bt, .slice a5 l.length q5] 26))) := Below.and (Below.and B2.out b1) bn
    have N3 : Hid (MBox 26 (w1.alloc (.cells #[.int .i64 b, .int .i64 bt, .slice a5 l.length q5] 26)) w.heap.size #[.int .i64 b, .int .i64 bt, .slice a l.length cap]) := (N1.out.step b1).step bn
    have N4 : Hid (MBox 26 (w1.alloc (.cells #[.int .i64 b, .int .i64 bt, .slice a5 l.length q5] 26)) (w.heap.size + 1) #[.int .i64 0, .int .i64 0, .slice none 0 0]) := (N2.out.step b1).step bn
    have N5 : Hid (MBox 26 (w1.alloc (.cells #[.int .i64 b, .int .i64 bt, .slice a5 l.length q5] 26)) w1.heap.size #[.int .i64 b, .int .i64 bt, .slice a5 l.length q5]) := MBox.start _ _ _
    have AE : Hid (OwnE (w1.alloc (.cells #[.int .i64 b, .int .i64 bt, .slice a5 l.length q5] 26)) w.heap.size 39 6 (.slice a5 l.length q5) l.length (flatE l)) := (o2.below bn).mono (by have := ZZ.out; omega)
    have Z1 : Hid (w.heap.size + 2 ≤ w1.heap.size) := by have := b1.size; have := ZZ.out; show _ ≤ _; omega
    clear b1 bn o2 c1
    have c1 := N3.out.cells
    have c5 := N5.out.cells
    generalize hV3 : w1.alloc (.cells #[.int .i64 b, .int .i64 bt, .slice a5 l.length q5] 26) = V3 at *
    have M2 := N4.out
    have m0 : V3.cell? ⟨w.heap.size + 1, 0, none⟩ = some (.int .i64 0) := cell_of_cells M2
    have m1 : V3.cell? ⟨w.heap.size + 1, 1, none⟩ = some (.int .i64 0) := cell_of_cells M2
    have m2 : V3.cell? ⟨w.heap.size + 1, 2, none⟩ = some (.slice none 0 0) := cell_of_cells M2
    have f0 : ∀ j, V3.frozen? ⟨w.heap.size + 1, j, none⟩ = false := fun j => frozen_of_cells M2
    have X := lg_all (.int .i64 b) (.int .i64 bt) (.slice a5 l.length q5) M2
    have ch := lg_all_chg V3 (w.heap.size + 1) (.int .i64 b) (.int .i64 bt) (.slice a5 l.length q5)
    have o3 := OwnE.chg AE.out ch (fun g hg => ownE_apart AE.out M2 (by decide) hg)
    have BF := B3.out.trans (ch.below (fun g _ hg => by omega) B3.out.size)
    have FIN : Hid (_ ∧ _ ∧ _) := And.intro X (And.intro o3 BF)
    clear M2 X ch o3 BF
    rw [← hV3] at c1 c5 m0 m1 m2 f0 FIN
    clear hV3
    go_wp2_with (go_at_call 57; refine (l1In_any _ _ _ _).mono ?_; rintro e w' ⟨rfl, rfl⟩)
    simp [bodyPost, results, Try.results23, go_sem, cell_of_cells FIN.out.1]
    exact ⟨_, ⟨E.out.2.1.symm, E.out.2.2.symm, rfl⟩, by rw [E.out.1]; exact FIN.out.2.1, FIN.out.2.2⟩
  · by_cases h2 : i - b - 1 < l.length
    · obtain ⟨n, hn⟩ : ∃ n : Nat, i - b = n + 1 := ⟨(i - b - 1).toNat, by omega⟩
      have hlt : n < l.length := by omega
      have E : Hid _ := cut_some (bt := bt) (placeB_at (l := l) hlt (show i = b + n + 1 by omega))
      have hi2 : inB ((n : Int) + 1) 1 (l.length : Int) = true := inB_true (by omega) (by omega)
      have hal := ha (by omega)
      subst hal
      obtain ⟨a2, ha2⟩ : ∃ a2, (if cap = n + 1 then (some ⟨bb, off, none⟩ : Option Addr) else (some ⟨bb, off, none⟩ : Option Addr).map (·.add ((n + 1) * 6))) = a2 := ⟨_, rfl⟩
      have P1 : Hid (Row w (.slice a2 (l.length - (n + 1)) (cap - (n + 1))) (l.length - (n + 1)) (flatE (l.drop (n + 1)))) := by
        have := HP.out.part (show n + 1 ≤ l.length by omega) (Nat.le_refl _) hcap (Nat.le_refl cap)
        rw [ha2, List.take_length] at this
        exact this
      have ha3 : (if cap = n + 1 then (some ⟨bb, off, none⟩ : Option Addr) else some ⟨bb, off + (n + 1) * 6, none⟩) = a2 := by rw [← ha2]; simp [Addr.add]
      have hcnd : 0 ≤ (n : Int) + 1 ∧ (n : Int) + 1 ≤ (l.length : Int) := by omega
      clear ha2
      have Z9 : Hid _ := room_rowE (n := l.length - (n + 1)) (bytes := 48) (by omega) (by decide)
      have hlen : Hid ((flatE (l.drop (n + 1))).length = (l.length - (n + 1)) * 6) := by show _ = _; rw [flatE_length, List.length_drop]
      have hw2 : IntKind.i64.wrap ((n : Int) + 1 - 1) = (n : Int) := by rw [IntKind.wrap_i64]; omega
      have hw3 : IntKind.i64.wrap (n : Int) = (n : Int) := by rw [IntKind.wrap_i64]; omega
      clear h2
      go_enter Try.func23, Try.ntmps23
      go_wp2_with fail
      generalize ((w.alloc (.cells #[.int .i64 b, .int .i64 bt, .slice (some ⟨bb, off, none⟩) l.length cap] 26)).alloc (.cells #[.int .i64 0, .int .i64 0, .slice none 0 0] 26)) = W at *
      refine (CC.out _ B2.out).mono ?_
      rintro e w1 ⟨v2, rfl, o2, b1⟩
      obtain ⟨a5, q5, hv2⟩ := OwnE.slice o2
      subst hv2
      have bn := bel_nw w1 (.cells #[.int .i64 b, .int .i64 bt, .slice a5 l.length q5] 26)
      have B3 : Hid (Below w.heap.size w (w1.alloc (.cells #[.int .i64 b, .int .i64 bt, .slice a5 l.length q5] 26))) := Below.and (Below.and B2.out b1) bn
      have N3 : Hid (MBox 26 (w1.alloc (.cells #[.int .i64 b, .int .i64 bt, .slice a5 l.length q5] 26)) w.heap.size #[.int .i64 b, .int .i64 bt, .slice (some ⟨bb, off, none⟩) l.length cap]) := (N1.out.step b1).step bn
      have N4 : Hid (MBox 26 (w1.alloc (.cells #[.int .i64 b, .int .i64 bt, .slice a5 l.length q5] 26)) (w.heap.size + 1) #[.int .i64 0, .int .i64 0, .slice none 0 0]) := (N2.out.step b1).step bn
      have N5 : Hid (MBox 26 (w1.alloc (.cells #[.int .i64 b, .int .i64 bt, .slice a5 l.length q5] 26)) w1.heap.size #[.int .i64 b, .int .i64 bt, .slice a5 l.length q5]) := MBox.start _ _ _
      have AE : Hid (OwnE (w1.alloc (.cells #[.int .i64 b, .int .i64 bt, .slice a5 l.length q5] 26)) w.heap.size 39 6 (.slice a5 l.length q5) l.length (flatE l)) := (o2.below bn).mono (by have := ZZ.out; omega)
      have Z1 : Hid (w.heap.size + 2 ≤ w1.heap.size) := by have := b1.size; have := ZZ.out; show _ ≤ _; omega
      clear b1 bn o2 c1
      have c1 := N3.out.cells
      have d0 : (w1.alloc (.cells #[.int .i64 b, .int .i64 bt, .slice a5 l.length q5] 26)).cell? ⟨bb, off + n * 6, none⟩ = some (.int .i64 (eT l n)) := (B3.out.cell (by exact cell_lt (hx0 n hlt))).trans (hx0 n hlt)
      go_wp2_with (go_at_call 57; refine (l1In_any _ _ _ _).mono ?_; rintro e w' ⟨rfl, rfl⟩)
      generalize w1.alloc (.cells #[.int .i64 b, .int .i64 bt, .slice a5 l.length q5] 26) = V3 at *
      have KEEP : Hid (∀ u, Below V3.heap.size V3 u → (fun u => u.cell? ⟨w.heap.size, 0, none⟩ = some (.int .i64 b) ∧ u.cell? ⟨w.heap.size, 1, none⟩ = some (.int .i64 bt) ∧ u.cell? ⟨w.heap.size, 2, none⟩ = some (.slice (some ⟨bb, off, none⟩) l.length cap) ∧ u.cell? ⟨bb, off + n * 6, none⟩ = some (.int .i64 (eT l n))) u) := fun u hu => by
        have k := (N3.out.step hu).cells
        exact ⟨k 0, k 1, k 2, (hu.cell (by exact cell_lt d0)).trans d0⟩
      have SL : Hid (Below V3.heap.size V3 V3.drew) := (Below.refl _ _).drew
      refine wp_region_held_drew (S := (fun u => u.cell? ⟨w.heap.size, 0, none⟩ = some (.int .i64 b) ∧ u.cell? ⟨w.heap.size, 1, none⟩ = some (.int .i64 bt) ∧ u.cell? ⟨w.heap.size, 2, none⟩ = some (.slice (some ⟨bb, off, none⟩) l.length cap) ∧ u.cell? ⟨bb, off + n * 6, none⟩ = some (.int .i64 (eT l n)))) (by kernel_rfl) (KEEP.out _ SL.out) (fun hH => ?_)
      refine wpAnyH_take (i := 0) (oi := ⟨_, _, _, _, _, _⟩) (v := ?_) rfl (by kernel_rfl) (by kernel_rfl) (by kernel_rfl) (fun _ _ _ h => h) (Or.inl ⟨by rfl, ?_⟩) (by assumption) ?_
      rotate_left
      · ((intro w hSw; (try dsimp only at hSw); go_simp); (try with_reducible rfl))
      try simp only [Act.put, List.setIfInBounds_toArray, List.set_cons_zero, List.set_cons_succ]
      refine wpAnyH_take (i := 1) (oi := ⟨_, _, _, _, _, _⟩) (v := ?_) rfl (by kernel_rfl) (by kernel_rfl) (by kernel_rfl) (fun _ _ _ h => h) (Or.inl ⟨by rfl, ?_⟩) (by assumption) ?_
      rotate_left
      · ((intro w hSw; (try dsimp only at hSw); go_simp); (try with_reducible rfl))
      try simp only [Act.put, List.setIfInBounds_toArray, List.set_cons_zero, List.set_cons_succ]
      refine wpAnyH_take (i := 2) (oi := ⟨_, _, _, _, _, _⟩) (v := ?_) rfl (by kernel_rfl) (by kernel_rfl) (by kernel_rfl) (fun _ _ _ h => h) (Or.inl ⟨by rfl, ?_⟩) (by assumption) ?_
      rotate_left
      · ((intro w hSw; (try dsimp only at hSw); go_simp); (try with_reducible rfl))
      try simp only [Act.put, List.setIfInBounds_toArray, List.set_cons_zero, List.set_cons_succ]
      refine wpAnyH_take (i := 3) (oi := ⟨_, _, _, _, _, _⟩) (v := ?_) rfl (by kernel_rfl) (by kernel_rfl) (by kernel_rfl) (fun _ _ _ h => h) (Or.inl ⟨by rfl, ?_⟩) (by assumption) ?_
      rotate_left
      · ((intro w hSw; (try dsimp only at hSw); go_simp); (try with_reducible rfl))
      try simp only [Act.put, List.setIfInBounds_toArray, List.set_cons_zero, List.set_cons_succ]
      refine wpAnyH_take (i := 4) (oi := ⟨_, _, _, _, _, _⟩) (v := ?_) rfl (by kernel_rfl) (by kernel_rfl) (by kernel_rfl) (fun _ _ _ h => h) (Or.inl ⟨by rfl, ?_⟩) (by assumption) ?_
      rotate_left
      · ((intro w hSw; (try dsimp only at hSw); go_simp); (try with_reducible rfl))
      try simp only [Act.put, List.setIfInBounds_toArray, List.set_cons_zero, List.set_cons_succ]
      refine wpAnyH_take (i := 5) (oi := ⟨_, _, _, _, _, _⟩) (v := ?_) rfl (by kernel_rfl) (by kernel_rfl) (by kernel_rfl) (fun _ _ _ h => h) (Or.inl ⟨by rfl, ?_⟩) (by assumption) ?_
      rotate_left
      · ((intro w hSw; (try dsimp only at hSw); go_simp); (try with_reducible rfl))
      try simp only [Act.put, List.setIfInBounds_toArray, List.set_cons_zero, List.set_cons_succ]
      refine wpAnyH_take (i := 6) (oi := ⟨_, _, _, _, _, _⟩) (v := ?_) rfl (by kernel_rfl) (by kernel_rfl) (by kernel_rfl) (fun _ _ _ h => h) (Or.inl ⟨by rfl, ?_⟩) (by assumption) ?_
      rotate_left
      · ((intro w hSw; (try dsimp only at hSw); go_simp); (try with_reducible rfl))
      try simp only [Act.put, List.setIfInBounds_toArray, List.set_cons_zero, List.set_cons_succ]
      refine wpAnyH_take (i := 7) (oi := ⟨_, _, _, _, _, _⟩) (v := ?_) rfl (by kernel_rfl) (by kernel_rfl) (by kernel_rfl) (fun _ _ _ h => h) (Or.inl ⟨by rfl, ?_⟩) (by assumption) ?_
      rotate_left
      · ((intro w hSw; (try dsimp only at hSw); go_simp); (try with_reducible rfl))
      try simp only [Act.put, List.setIfInBounds_toArray, List.set_cons_zero, List.set_cons_succ]
      refine wpAnyH_take (i := 9) (oi := ⟨_, _, _, _, _, _⟩) (v := ?_) rfl (by kernel_rfl) (by kernel_rfl) (by kernel_rfl) (fun _ _ _ h => h) (Or.inl ⟨by rfl, ?_⟩) (by assumption) ?_
      rotate_left
      · ((intro w hSw; (try dsimp only at hSw); go_simp); (try with_reducible rfl))
      try simp only [Act.put, List.setIfInBounds_toArray, List.set_cons_zero, List.set_cons_succ]
      refine wpAnyH_take (i := 10) (oi := ⟨_, _, _, _, _, _⟩) (v := ?_) rfl (by kernel_rfl) (by kernel_rfl) (by kernel_rfl) (fun _ _ _ h => h) (Or.inl ⟨by rfl, ?_⟩) (by assumption) ?_
      rotate_left
      · ((intro w hSw; (try dsimp only at hSw); go_simp); (try with_reducible rfl))
      try simp only [Act.put, List.setIfInBounds_toArray, List.set_cons_zero, List.set_cons_succ]
      refine wpAnyH_take (i := 11) (oi := ⟨_, _, _, _, _, _⟩) (v := ?_) rfl (by kernel_rfl) (by kernel_rfl) (by kernel_rfl) (fun _ _ _ h => h) (Or.inl ⟨by rfl, ?_⟩) (by assumption) ?_
      rotate_left
      · ((intro w hSw; (try dsimp only at hSw); go_simp); (try with_reducible rfl))
      try simp only [Act.put, List.setIfInBounds_toArray, List.set_cons_zero, List.set_cons_succ]
      refine wpAnyH_take (i := 12) (oi := ⟨_, _, _, _, _, _⟩) (v := ?_) rfl (by kernel_rfl) (by kernel_rfl) (by kernel_rfl) (fun _ _ _ h => h) (Or.inl ⟨by rfl, ?_⟩) (by assumption) ?_
      rotate_left
      · ((intro w hSw; (try dsimp only at hSw); go_simp); (try with_reducible rfl))
      try simp only [Act.put, List.setIfInBounds_toArray, List.set_cons_zero, List.set_cons_succ]
      refine wpAnyH_ready (rs := [8]) (by kernel_rfl) (by simp) ?_
      refine AllReadyH.cons (o := ⟨_, _, _, _, _, _⟩) rfl (fun K hK => ?_) AllReadyH.nil
      go_simp
      have SL2 : Hid (Below V3.heap.size V3 ((V3.alloc (.cells #[] 39)).drew)) := (bel_nw _ _).drew
      refine hK.out _ _ (KEEP.out _ SL2.out) (fun hH2 => ?_)
      clear hK K hH
      have hH := hH2
      clear hH2
      try simp only [Act.put, List.setIfInBounds_toArray, List.set_cons_zero, List.set_cons_succ]
      generalize ((V3.alloc (.cells #[] 39)).drew) = W2 at *
      refine wpAnyH_ready (rs := [13]) (by kernel_rfl) (by simp) ?_
      refine AllReadyH.cons (o := ⟨_, _, _, _, _, _⟩) rfl (fun K hK => ?_) AllReadyH.nil
      refine step_appE W2 rfl _ _ 24 rfl w.heap.size 39 i0 _ 6 48 Try.underlying24 hi0 hz0 hz1 hz2 rfl (by decide) (.slice (some ⟨V3.heap.size, 0, none⟩) 0 0) 0 [] rfl (OwnE.zero _ _ _ _ _) (.slice a2 (l.length - (n + 1)) (cap - (n + 1))) (l.length - (n + 1)) (flatE (l.drop (n + 1))) rfl (P1.out.below (Below.and B3.out SL2.out)) hlen.out (flatE_one _) Z9.out.1 Z9.out.2 (Nat.le_trans B3.out.size SL2.out.size) ?_
      intro v' x AP
      have AE := AP.1
      rw [Nat.zero_add, List.nil_append] at AE
      have bx : Below W2.heap.size W2 x := AP.2.1.below (fun g _ h => absurd h (wrB_zero _ _)) (Nat.le_refl _)
      obtain ⟨a3, q3, hv3⟩ := OwnE.slice AE
      subst hv3
      have SL3 : Hid (Below V3.heap.size V3 x) := Below.and SL2.out bx
      have AE3 : Hid (OwnE x w.heap.size 39 6 (.slice a3 (l.length - (n + 1)) q3) (l.length - (n + 1)) (flatE (l.drop (n + 1)))) := AE
      clear AP AE bx
      refine hK.out _ _ (KEEP.out _ SL3.out) (fun hH2 => ?_)
      clear hK K hH
      have hH := hH2
      clear hH2
      try simp only [Act.put, List.setIfInBounds_toArray, List.set_cons_zero, List.set_cons_succ]
      refine wpAnyH_take (i := 14) (oi := ⟨_, _, _, _, _, _⟩) (v := ?_) rfl (by kernel_rfl) (by kernel_rfl) (by kernel_rfl) (fun _ _ _ h => h) (Or.inl ⟨by rfl, ?_⟩) (by assumption) ?_
      rotate_left
      · ((intro w hSw; (try dsimp only at hSw); go_simp); (try with_reducible rfl))
      try simp only [Act.put, List.setIfInBounds_toArray, List.set_cons_zero, List.set_cons_succ]
      have M2 := N4.out.step SL3.out
      have m0 : x.cell? ⟨w.heap.size + 1, 0, none⟩ = some (.int .i64 0) := cell_of_cells M2
      have m1 : x.cell? ⟨w.heap.size + 1, 1, none⟩ = some (.int .i64 0) := cell_of_cells M2
      have m2 : x.cell? ⟨w.heap.size + 1, 2, none⟩ = some (.slice none 0 0) := cell_of_cells M2
      have f0 : ∀ j, x.frozen? ⟨w.heap.size + 1, j, none⟩ = false := fun j => frozen_of_cells M2
      have X := lg_all (.int .i64 i) (.int .i64 (eT l n)) (.slice a3 (l.length - (n + 1)) q3) M2
      have ch := lg_all_chg x (w.heap.size + 1) (.int .i64 i) (.int .i64 (eT l n)) (.slice a3 (l.length - (n + 1)) q3)
      have o4 := OwnE.chg AE3.out ch (fun g hg => ownE_apart AE3.out M2 (by decide) hg)
      have K1 := (N3.out.step SL3.out)
      have K2 := row_chg K1 ch (by omega)
      have d9 : x.cell? ⟨bb, off + n * 6, none⟩ = some (.int .i64 (eT l n)) := (SL3.out.cell (by exact cell_lt d0)).trans d0
      have hbb : bb < w.heap.size := by have := cell_lt (hx0 n hlt); exact this
      have BB := (Below.and B3.out SL3.out)
      have K3 : (((x.setCell ⟨w.heap.size + 1, 0, none⟩ (.int .i64 i)).setCell ⟨w.heap.size + 1, 1, none⟩ (.int .i64 (eT l n))).setCell ⟨w.heap.size + 1, 2, none⟩ (.slice a3 (l.length - (n + 1)) q3)).cell? ⟨bb, off + n * 6, none⟩ = some (.int .i64 (eT l n)) := by
        have hb5 : Below w.heap.size x (((x.setCell ⟨w.heap.size + 1, 0, none⟩ (.int .i64 i)).setCell ⟨w.heap.size + 1, 1, none⟩ (.int .i64 (eT l n))).setCell ⟨w.heap.size + 1, 2, none⟩ (.slice a3 (l.length - (n + 1)) q3)) := ch.below (fun g _ hg => by omega) BB.size
        exact (hb5.cell hbb).trans d9
      have BF := BB.trans (ch.below (fun g _ hg => by omega) BB.size)
      have FIN : Hid (_ ∧ _ ∧ _) := And.intro X (And.intro o4 BF)
      have KS : Hid _ := And.intro K2 K3
      clear M2 X ch o4 K1 K2 K3 BB BF d9 d0 c1
      refine wpAnyH_ready (rs := [15]) (by kernel_rfl) (by simp) ?_
      refine AllReadyH.cons (o := ⟨_, _, _, _, _, _⟩) rfl (fun K hK => ?_) AllReadyH.nil
      go_simp
      refine hK.out _ _ (⟨cell_of_cells KS.out.1, cell_of_cells KS.out.1, cell_of_cells KS.out.1, KS.out.2⟩) (fun hH2 => ?_)
      clear hK K hH
      have hH := hH2
      clear hH2
      try simp only [Act.put, List.setIfInBounds_toArray, List.set_cons_zero, List.set_cons_succ]
      refine wpAnyH_done (by kernel_rfl) ?_ _
      clear hH m0 m1 m2 f0
      go_wp2_with fail
      simp [bodyPost, results, Try.results23, go_sem, cell_of_cells FIN.out.1]
      exact ⟨_, ⟨E.out.2.1.symm, E.out.2.2.symm, rfl⟩, by rw [E.out.1, List.length_drop]; exact FIN.out.2.1, FIN.out.2.2⟩
    · have hf := far_i64c HI.out.1 HI.out.2 (show b < i by omega) h2
      have E : Hid _ := cut_none (bt := bt) (placeB_far h2)
      clear hx0 ha h2
      go_enter Try.func23, Try.ntmps23
      go_wp2_with fail
      generalize ((w.alloc (.cells #[.int .i64 b, .int .i64 bt, .slice a l.length cap] 26)).alloc (.cells #[.int .i64 0, .int .i64 0, .slice none 0 0] 26)) = W at *
      refine (CC.out _ B2.out).mono ?_
      rintro e w1 ⟨v2, rfl, o2, b1⟩
      obtain ⟨a5, q5, hv2⟩ := OwnE.slice o2
      subst hv2
      have bn := bel_nw w1 (.cells #[.int .i64 b, .int .i64 bt, .slice a5 l.length q5] 26)
      have B3 : Hid (Below w.heap.size w (w1.alloc (.cells #[.int .i64 b, .int .i64 bt, .slice a5 l.length q5] 26))) := Below.and (Below.and B2.out b1) bn
      have N3 : Hid (MBox 26 (w1.alloc (.cells #[.int .i64 b, .int .i64 bt, .slice a5 l.length q5] 26)) w.heap.size #[.int .i64 b, .int .i64 bt, .slice a l.length cap]) := (N1.out.step b1).step bn
      have N4 : Hid (MBox 26 (w1.alloc (.cells #[.int .i64 b, .int .i64 bt, .slice a5 l.length q5] 26)) (w.heap.size + 1) #[.int .i64 0, .int .i64 0, .slice none 0 0]) := (N2.out.step b1).step bn
      have N5 : Hid (MBox 26 (w1.alloc (.cells #[.int .i64 b, .int .i64 bt, .slice a5 l.length q5] 26)) w1.heap.size #[.int .i64 b, .int .i64 bt, .slice a5 l.length q5]) := MBox.start _ _ _
      have AE : Hid (OwnE (w1.alloc (.cells #[.int .i64 b, .int .i64 bt, .slice a5 l.length q5] 26)) w.heap.size 39 6 (.slice a5 l.length q5) l.length (flatE l)) := (o2.below bn).mono (by have := ZZ.out; omega)
      have Z1 : Hid (w.heap.size + 2 ≤ w1.heap.size) := by have := b1.size; have := ZZ.out; show _ ≤ _; omega
      clear b1 bn o2 c1
      have c1 := N3.out.cells
      have c5 := N5.out.cells
      generalize hV3 : w1.alloc (.cells #[.int .i64 b, .int .i64 bt, .slice a5 l.length q5] 26) = V3 at *
      have M2 := N4.out
      have m0 : V3.cell? ⟨w.heap.size + 1, 0, none⟩ = some (.int .i64 0) := cell_of_cells M2
      have m1 : V3.cell? ⟨w.heap.size + 1, 1, none⟩ = some (.int .i64 0) := cell_of_cells M2
      have m2 : V3.cell? ⟨w.heap.size + 1, 2, none⟩ = some (.slice none 0 0) := cell_of_cells M2
      have f0 : ∀ j, V3.frozen? ⟨w.heap.size + 1, j, none⟩ = false := fun j => frozen_of_cells M2
      have X := lg_all (.int .i64 b) (.int .i64 bt) (.slice a5 l.length q5) M2
      have ch := lg_all_chg V3 (w.heap.size + 1) (.int .i64 b) (.int .i64 bt) (.slice a5 l.length q5)
      have o3 := OwnE.chg AE.out ch (fun g hg => ownE_apart AE.out M2 (by decide) hg)
      have BF := B3.out.trans (ch.below (fun g _ hg => by omega) B3.out.size)
      have FIN : Hid (_ ∧ _ ∧ _) := And.intro X (And.intro o3 BF)
      clear M2 X ch o3 BF
      rw [← hV3] at c1 c5 m0 m1 m2 f0 FIN
      clear hV3
      go_wp2_with (go_at_call 57; refine (l1In_any _ _ _ _).mono ?_; rintro e w' ⟨rfl, rfl⟩)
      simp [bodyPost, results, Try.results23, go_sem, cell_of_cells FIN.out.1]
      exact ⟨_, ⟨E.out.2.1.symm, E.out.2.2.symm, rfl⟩, by rw [E.out.1]; exact FIN.out.2.1, FIN.out.2.2⟩

end Go.Proofs.Yteegcblndbljlaa
