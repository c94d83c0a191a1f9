/-
  copyOfLog of the program; LogCut of both sides.
-/
import Derived.Test.YteegcblndbljlaaLogPart
import Derived.Test.YteegcblndbljlaaLogCp
import Derived.Test.YteegcblndbljlaaCallBy
import Derived.Deep.RegionHeld3
namespace Go.Proofs.Yteegcblndbljlaa
open Go.RowKit

/-- the log without the entries up to number i -/
def lcL (b : Int) (l : EL) (i : Int) : EL := match placeB b l i with | some n => l.drop (n + 1) | none => l
def lcB (b : Int) (l : EL) (i : Int) : Int := match placeB b l i with | some _ => i | none => b
def lcT (b bt : Int) (l : EL) (i : Int) : Int := match placeB b l i with | some n => eT l n | none => bt
theorem cut_none {b bt : Int} {l : EL} {i : Int} (h : placeB b l i = none) : lcL b l i = l ∧ lcB b l i = b ∧ lcT b bt l i = bt := by simp [lcL, lcB, lcT, h]
theorem cut_some {b bt : Int} {l : EL} {i : Int} {n : Nat} (h : placeB b l i = some n) : lcL b l i = l.drop (n + 1) ∧ lcB b l i = i ∧ lcT b bt l i = eT l n := by simp [lcL, lcB, lcT, h]
theorem lcL_len (b : Int) (l : EL) (i : Int) : (lcL b l i).length ≤ l.length := by
  unfold lcL
  cases placeB b l i with
  | none => exact Nat.le_refl _
  | some n => rw [List.length_drop]; omega

theorem run_tail (args : Array Value) (w : World) : (callFunc 62 args).run Try.prog w = .ok (.enter 62 args) w := by go_simp
theorem run_joined (args : Array Value) (w : World) : (callFunc 61 args).run Try.prog w = .ok (.enter 61 args) w := by go_simp

set_option maxRecDepth 100000 in
set_option maxHeartbeats 2000000 in
theorem copyOfLog_any (b bt : Int) (v : Value) (l : EL) (w : World) (h : Row w v l.length (flatE l)) (hs : l.length ≤ 2097152) :
    Calls Try.prog 51 #[lgV b bt v] w fun e w' => ∃ v', e = .returned (lgV b bt v') ∧ w'.ownsRow w.heap.size 39 6 v' l.length (flatE l) ∧ Below w.heap.size w w' := by
  obtain ⟨a, bb, off, cap, rfl, hcap, hmax, -⟩ := h.ents
  have W0 : ∃ W, W = (((w.alloc (.cells #[.int .i64 b, .int .i64 bt, .slice a l.length cap] 26)).alloc (.cells #[.int .i64 0, .int .i64 0, .slice none 0 0] 26)).alloc (.cells #[.slice a l.length cap] 24)) := ⟨_, rfl⟩
  have N1 : Hid (MBox 26 (((w.alloc (.cells #[.int .i64 b, .int .i64 bt, .slice a l.length cap] 26)).alloc (.cells #[.int .i64 0, .int .i64 0, .slice none 0 0] 26)).alloc (.cells #[.slice a l.length cap] 24)) w.heap.size #[.int .i64 b, .int .i64 bt, .slice a l.length cap]) := ((MBox.start _ _ _).step (bel_nw _ _)).step (bel_nw _ _)
  have N2 : Hid (MBox 26 (((w.alloc (.cells #[.int .i64 b, .int .i64 bt, .slice a l.length cap] 26)).alloc (.cells #[.int .i64 0, .int .i64 0, .slice none 0 0] 26)).alloc (.cells #[.slice a l.length cap] 24)) (w.heap.size + 1) #[.int .i64 0, .int .i64 0, .slice none 0 0]) := by
    have := (MBox.start 26 (w.alloc (.cells #[.int .i64 b, .int .i64 bt, .slice a l.length cap] 26)) #[.int .i64 0, .int .i64 0, .slice none 0 0]).step (bel_nw _ (.cells #[.slice a l.length cap] 24))
    rw [World.size_alloc] at this
    exact this
  have N3 : Hid (MBox 24 (((w.alloc (.cells #[.int .i64 b, .int .i64 bt, .slice a l.length cap] 26)).alloc (.cells #[.int .i64 0, .int .i64 0, .slice none 0 0] 26)).alloc (.cells #[.slice a l.length cap] 24)) (w.heap.size + 1 + 1) #[.slice a l.length cap]) := by
    have := MBox.start 24 ((w.alloc (.cells #[.int .i64 b, .int .i64 bt, .slice a l.length cap] 26)).alloc (.cells #[.int .i64 0, .int .i64 0, .slice none 0 0] 26)) #[.slice a l.length cap]
    rw [World.size_alloc, World.size_alloc] at this
    exact this
  have B2 : Hid (Below w.heap.size w (((w.alloc (.cells #[.int .i64 b, .int .i64 bt, .slice a l.length cap] 26)).alloc (.cells #[.int .i64 0, .int .i64 0, .slice none 0 0] 26)).alloc (.cells #[.slice a l.length cap] 24))) := Below.and (Below.and (bel_nw _ _) (bel_nw _ _)) (bel_nw _ _)
  have ZZ : Hid ((((w.alloc (.cells #[.int .i64 b, .int .i64 bt, .slice a l.length cap] 26)).alloc (.cells #[.int .i64 0, .int .i64 0, .slice none 0 0] 26)).alloc (.cells #[.slice a l.length cap] 24)).heap.size = w.heap.size + 3) := by show _ = _; simp
  have R1 : Hid (Row w (.slice a l.length cap) l.length (flatE l)) := h
  clear h hcap hmax W0
  go_enter Try.func51, Try.ntmps51
  go_wp2_with fail
  generalize (((w.alloc (.cells #[.int .i64 b, .int .i64 bt, .slice a l.length cap] 26)).alloc (.cells #[.int .i64 0, .int .i64 0, .slice none 0 0] 26)).alloc (.cells #[.slice a l.length cap] 24)) = W at *
  refine (joined_one _ _ _ l W N3.out (R1.out.below B2.out) hs).mono ?_
  rintro e w3 ⟨v3, rfl, o3, b3⟩
  obtain ⟨a5, q5, hv3⟩ := owns_val o3
  subst hv3
  have zz := ZZ.out
  generalize hm5 : l.length = m5 at *
  have s1 := N2.out.step b3
  have s2 := N1.out.step b3
  have B3 := Below.and B2.out b3
  have u2 := lg_last (.slice a5 m5 q5) s2
  have g3 := lg_last_chg w3 w.heap.size (.slice a5 m5 q5)
  have u1 := row_chg s1 g3 (by omega)
  have o4 := owns_chg o3 g3 (fun g hg e => by have := (o3.lt g hg).1; omega)
  have B4 := B3.trans (g3.below (fun g _ hg => by omega) B3.size)
  have x1 := lg_all (.int .i64 b) (.int .i64 bt) (.slice a5 m5 q5) u1
  have g5 := lg_all_chg (w3.setCell ⟨w.heap.size, 2, none⟩ (.slice a5 m5 q5)) (w.heap.size + 1) (.int .i64 b) (.int .i64 bt) (.slice a5 m5 q5)
  have o5 := owns_chg o4 g5 (fun g hg e => by have := (o4.lt g hg).1; omega)
  have B5 := B4.trans (g5.below (fun g _ hg => by omega) B4.size)
  have f2 : ∀ j, w3.frozen? ⟨w.heap.size, j, none⟩ = false := fun j => frozen_of_cells s2
  have f3 : ∀ j, (w3.setCell ⟨w.heap.size, 2, none⟩ (.slice a5 m5 q5)).frozen? ⟨w.heap.size + 1, j, none⟩ = false := fun j => frozen_of_cells u1
  have c2 : ∀ j, w3.cell? ⟨w.heap.size, j, none⟩ = (#[.int .i64 b, .int .i64 bt, .slice a m5 cap] : Array Value)[j]? := fun j => cell_of_cells s2
  have c3 : ∀ j, (w3.setCell ⟨w.heap.size, 2, none⟩ (.slice a5 m5 q5)).cell? ⟨w.heap.size, j, none⟩ = (#[.int .i64 b, .int .i64 bt, .slice a5 m5 q5] : Array Value)[j]? := fun j => cell_of_cells u2
  have c4 : ∀ j, (w3.setCell ⟨w.heap.size, 2, none⟩ (.slice a5 m5 q5)).cell? ⟨w.heap.size + 1, j, none⟩ = (#[.int .i64 0, .int .i64 0, .slice none 0 0] : Array Value)[j]? := fun j => cell_of_cells u1
  have X1 : Hid _ := x1
  have K : Hid _ := And.intro (owns_mono (base' := w.heap.size) o5 (by omega)) B5
  have HM : Hid _ := hm5
  clear s1 s2 B3 u2 g3 u1 o4 B4 x1 g5 o5 B5 o3 b3 zz hm5
  go_wp2_with fail
  simp [bodyPost, results, Try.results51, go_sem, cell_of_cells X1.out]
  rw [HM.out]
  exact K.out

set_option maxRecDepth 100000 in
set_option maxHeartbeats 4000000 in
theorem implLogCut_any (b bt : Int) (v : Value) (l : EL) (i : Int) (w : World) (h : Row w v l.length (flatE l)) (hb : I64 b) (hi : I64 i) (hs : l.length ≤ 2097152) :
    Calls Try.prog 22 #[lgV b bt v, .int .i64 i] w fun e w' => ∃ v', e = .returned (lgV (lcB b l i) (lcT b bt l i) v') ∧ w'.ownsRow w.heap.size 39 6 v' (lcL b l i).length (flatE (lcL b l i)) ∧ Below w.heap.size w w' := by
  have C : Hid (∀ u, Below w.heap.size w u → Calls Try.prog 59 #[lgV b bt v, .int .i64 i] u fun e w' => e = .returned (placeV (placeB b l i)) ∧ Below u.heap.size u w') := fun u hu => placeOf_any b bt v l i u (Row.below h hu) hb hi
  have CC : Hid (∀ u, Below w.heap.size w u → Calls Try.prog 51 #[lgV b bt v] u fun e w' => ∃ v', e = .returned (lgV b bt v') ∧ w'.ownsRow u.heap.size 39 6 v' l.length (flatE l) ∧ Below u.heap.size u w') := fun u hu => copyOfLog_any b bt v l u (Row.below h hu) hs
  have R0 : Hid (∀ u, Below w.heap.size w u → Row u v l.length (flatE l)) := fun u hu => Row.below h hu
  obtain ⟨a, bb, off, cap, rfl, hcap, hmax, ha, hx0, -⟩ := h.ents
  unfold maxLen at hmax
  have N1 : Hid (MBox 26 ((w.alloc (.cells #[.int .i64 b, .int .i64 bt, .slice a l.length cap] 26)).alloc (.cells #[.int .i64 0, .int .i64 0, .slice none 0 0] 26)) w.heap.size #[.int .i64 b, .int .i64 bt, .slice a l.length cap]) := (MBox.start _ _ _).step (bel_nw _ _)
  have N2 : Hid (MBox 26 ((w.alloc (.cells #[.int .i64 b, .int .i64 bt, .slice a l.length cap] 26)).alloc (.cells #[.int .i64 0, .int .i64 0, .slice none 0 0] 26)) (w.heap.size + 1) #[.int .i64 0, .int .i64 0, .slice none 0 0]) := by
    have := MBox.start 26 (w.alloc (.cells #[.int .i64 b, .int .i64 bt, .slice a l.length cap] 26)) #[.int .i64 0, .int .i64 0, .slice none 0 0]
    rw [World.size_alloc] at this
    exact this
  have B2 : Hid (Below w.heap.size w ((w.alloc (.cells #[.int .i64 b, .int .i64 bt, .slice a l.length cap] 26)).alloc (.cells #[.int .i64 0, .int .i64 0, .slice none 0 0] 26))) := Below.and (bel_nw _ _) (bel_nw _ _)
  have ZZ : Hid (((w.alloc (.cells #[.int .i64 b, .int .i64 bt, .slice a l.length cap] 26)).alloc (.cells #[.int .i64 0, .int .i64 0, .slice none 0 0] 26)).heap.size = w.heap.size + 2) := by show _ = _; simp
  have c1 := N1.out.cells
  clear h hb hi
  cases hp : placeB b l i with
  | none =>
    rw [hp] at C
    have E : Hid _ := cut_none (bt := bt) hp
    clear hp hx0 ha
    go_enter Try.func22, Try.ntmps22
    go_wp2_with fail
    generalize ((w.alloc (.cells #[.int .i64 b, .int .i64 bt, .slice a l.length cap] 26)).alloc (.cells #[.int .i64 0, .int .i64 0, .slice none 0 0] 26)) = W at *
    refine (C.out _ B2.out).mono ?_
    rintro e w1 ⟨rfl, b1⟩
    have B3 : Hid (Below w.heap.size w w1) := Below.and B2.out b1
    have N3 : Hid (MBox 26 w1 w.heap.size #[.int .i64 b, .int .i64 bt, .slice a l.length cap]) := N1.out.step b1
    have N4 : Hid (MBox 26 w1 (w.heap.size + 1) #[.int .i64 0, .int .i64 0, .slice none 0 0]) := N2.out.step b1
    have Z1 : Hid (w.heap.size + 2 ≤ w1.heap.size) := by have := b1.size; have := ZZ.out; show _ ≤ _; omega
    clear b1 c1
    have c1 := N3.out.cells
    go_wp2_with fail
    refine (CC.out _ B3.out).mono ?_
    rintro e w2 ⟨v2, rfl, o2, b2⟩
    obtain ⟨a5, q5, hv2⟩ := owns_val o2
    subst hv2
    have B4 := Below.and B3.out b2
    have M2 := N4.out.step b2
    have m0 : w2.cell? ⟨w.heap.size + 1, 0, none⟩ = some (.int .i64 0) := cell_of_cells M2
    have m1 : w2.cell? ⟨w.heap.size + 1, 1, none⟩ = some (.int .i64 0) := cell_of_cells M2
    have m2 : w2.cell? ⟨w.heap.size + 1, 2, none⟩ = some (.slice none 0 0) := cell_of_cells M2
    have f0 : ∀ j, w2.frozen? ⟨w.heap.size + 1, j, none⟩ = false := fun j => frozen_of_cells M2
    have X := lg_all (.int .i64 b) (.int .i64 bt) (.slice a5 l.length q5) M2
    have ch := lg_all_chg w2 (w.heap.size + 1) (.int .i64 b) (.int .i64 bt) (.slice a5 l.length q5)
    have o3 := owns_chg o2 ch (fun g hg e => by have := (o2.lt g hg).1; have := Z1.out; omega)
    have BF := B4.trans (ch.below (fun g _ hg => by omega) B4.size)
    have FIN : Hid (_ ∧ _ ∧ _) := And.intro X (And.intro (owns_mono (base' := w.heap.size) o3 (by have := Z1.out; omega)) BF)
    clear M2 X ch o3 BF B4 o2 b2 c1
    go_wp2_with fail
    simp [bodyPost, results, Try.results22, go_sem, cell_of_cells FIN.out.1]
    exact ⟨_, ⟨E.out.2.1.symm, E.out.2.2.symm, rfl⟩, by rw [E.out.1]; exact FIN.out.2.1, FIN.out.2.2⟩
  | some n =>
    rw [hp] at C
    have E : Hid _ := cut_some (bt := bt) hp
    have hn := (placeB_some hp).1
    clear hp
    have hal := ha (by omega)
    subst hal
    go_enter Try.func22, Try.ntmps22
    go_wp2_with fail
    generalize ((w.alloc (.cells #[.int .i64 b, .int .i64 bt, .slice (some ⟨bb, off, none⟩) l.length cap] 26)).alloc (.cells #[.int .i64 0, .int .i64 0, .slice none 0 0] 26)) = W at *
    refine (C.out _ B2.out).mono ?_
    rintro e w1 ⟨rfl, b1⟩
    have B3 : Hid (Below w.heap.size w w1) := Below.and B2.out b1
    have N3 : Hid (MBox 26 w1 w.heap.size #[.int .i64 b, .int .i64 bt, .slice (some ⟨bb, off, none⟩) l.length cap]) := N1.out.step b1
    have N4 : Hid (MBox 26 w1 (w.heap.size + 1) #[.int .i64 0, .int .i64 0, .slice none 0 0]) := N2.out.step b1
    have Z1 : Hid (w.heap.size + 2 ≤ w1.heap.size) := by have := b1.size; have := ZZ.out; show _ ≤ _; omega
    clear b1 c1
    have c1 := N3.out.cells
    have d0 : w1.cell? ⟨bb, off + n * 6, none⟩ = some (.int .i64 (eT l n)) := (B3.out.cell (by exact cell_lt (hx0 n hn))).trans (hx0 n hn)
    go_wp2_with fail
    have hw1 : IntKind.i64.wrap ((n : Int) + 1) = (n : Int) + 1 := by rw [IntKind.wrap_i64]; omega
    have KEEP : Hid (∀ u, Below w1.heap.size w1 u → (fun u => u.cell? ⟨w.heap.size, 0, none⟩ = some (.int .i64 b) ∧ u.cell? ⟨w.heap.size, 1, none⟩ = some (.int .i64 bt) ∧ u.cell? ⟨w.heap.size, 2, none⟩ = some (.slice (some ⟨bb, off, none⟩) l.length cap) ∧ u.cell? ⟨bb, off + n * 6, none⟩ = some (.int .i64 (eT l n))) u) := fun u hu => by
      have k := (N3.out.step hu).cells
      exact ⟨k 0, k 1, k 2, (hu.cell (by exact cell_lt d0)).trans d0⟩
    have SL : Hid (Below w1.heap.size w1 w1.drew) := (Below.refl _ _).drew
    refine wp_region_held_drew (S := (fun u => u.cell? ⟨w.heap.size, 0, none⟩ = some (.int .i64 b) ∧ u.cell? ⟨w.heap.size, 1, none⟩ = some (.int .i64 bt) ∧ u.cell? ⟨w.heap.size, 2, none⟩ = some (.slice (some ⟨bb, off, none⟩) l.length cap) ∧ u.cell? ⟨bb, off + n * 6, none⟩ = some (.int .i64 (eT l n)))) (by kernel_rfl) (KEEP.out _ SL.out) (fun hH => ?_)
    refine wpAnyH_take (i := 0) (oi := ⟨_, _, _, _, _, _⟩) (v := ?_) rfl (by kernel_rfl) (by kernel_rfl) (by kernel_rfl) (fun _ _ _ h => h) (Or.inl ⟨by rfl, ?_⟩) (by assumption) ?_
    rotate_left
    · ((intro w hSw; (try dsimp only at hSw); go_simp); (try with_reducible rfl))
    try simp only [Act.put, List.setIfInBounds_toArray, List.set_cons_zero, List.set_cons_succ]
    refine wpAnyH_take (i := 1) (oi := ⟨_, _, _, _, _, _⟩) (v := ?_) rfl (by kernel_rfl) (by kernel_rfl) (by kernel_rfl) (fun _ _ _ h => h) (Or.inl ⟨by rfl, ?_⟩) (by assumption) ?_
    rotate_left
    · ((intro w hSw; (try dsimp only at hSw); go_simp); (try with_reducible rfl))
    try simp only [Act.put, List.setIfInBounds_toArray, List.set_cons_zero, List.set_cons_succ]
    refine wpAnyH_take (i := 2) (oi := ⟨_, _, _, _, _, _⟩) (v := ?_) rfl (by kernel_rfl) (by kernel_rfl) (by kernel_rfl) (fun _ _ _ h => h) (Or.inl ⟨by rfl, ?_⟩) (by assumption) ?_
    rotate_left
    · ((intro w hSw; (try dsimp only at hSw); go_simp); (try with_reducible rfl))
    try simp only [Act.put, List.setIfInBounds_toArray, List.set_cons_zero, List.set_cons_succ]
    refine wpAnyH_take (i := 3) (oi := ⟨_, _, _, _, _, _⟩) (v := ?_) rfl (by kernel_rfl) (by kernel_rfl) (by kernel_rfl) (fun _ _ _ h => h) (Or.inl ⟨by rfl, ?_⟩) (by assumption) ?_
    rotate_left
    · ((intro w hSw; (try dsimp only at hSw); go_simp); (try with_reducible rfl))
    try simp only [Act.put, List.setIfInBounds_toArray, List.set_cons_zero, List.set_cons_succ]
    refine wpAnyH_take (i := 4) (oi := ⟨_, _, _, _, _, _⟩) (v := ?_) rfl (by kernel_rfl) (by kernel_rfl) (by kernel_rfl) (fun _ _ _ h => h) (Or.inl ⟨by rfl, ?_⟩) (by assumption) ?_
    rotate_left
    · ((intro w hSw; (try dsimp only at hSw); go_simp); (try with_reducible rfl))
    try simp only [Act.put, List.setIfInBounds_toArray, List.set_cons_zero, List.set_cons_succ]
    refine wpAnyH_take (i := 5) (oi := ⟨_, _, _, _, _, _⟩) (v := ?_) rfl (by kernel_rfl) (by kernel_rfl) (by kernel_rfl) (fun _ _ _ h => h) (Or.inl ⟨by rfl, ?_⟩) (by assumption) ?_
    rotate_left
    · ((intro w hSw; (try dsimp only at hSw); go_simp); (try with_reducible rfl))
    try simp only [Act.put, List.setIfInBounds_toArray, List.set_cons_zero, List.set_cons_succ]
    refine wpAnyH_take (i := 6) (oi := ⟨_, _, _, _, _, _⟩) (v := ?_) rfl (by kernel_rfl) (by kernel_rfl) (by kernel_rfl) (fun _ _ _ h => h) (Or.inl ⟨by rfl, ?_⟩) (by assumption) ?_
    rotate_left
    · ((intro w hSw; (try dsimp only at hSw); go_simp); (try with_reducible rfl))
    try simp only [Act.put, List.setIfInBounds_toArray, List.set_cons_zero, List.set_cons_succ]
    refine wpAnyH_take (i := 7) (oi := ⟨_, _, _, _, _, _⟩) (v := ?_) rfl (by kernel_rfl) (by kernel_rfl) (by kernel_rfl) (fun _ _ _ h => h) (Or.inl ⟨by rfl, ?_⟩) (by assumption) ?_
    rotate_left
    · ((intro w hSw; (try dsimp only at hSw); go_simp); (try with_reducible rfl))
    try simp only [Act.put, List.setIfInBounds_toArray, List.set_cons_zero, List.set_cons_succ]
    refine wpAnyH_take (i := 8) (oi := ⟨_, _, _, _, _, _⟩) (v := ?_) rfl (by kernel_rfl) (by kernel_rfl) (by kernel_rfl) (fun _ _ _ h => h) (Or.inl ⟨by rfl, ?_⟩) (by assumption) ?_
    rotate_left
    · ((intro w hSw; (try dsimp only at hSw); go_simp); (try with_reducible rfl))
    try simp only [Act.put, List.setIfInBounds_toArray, List.set_cons_zero, List.set_cons_succ]
    refine wpAnyH_take (i := 9) (oi := ⟨_, _, _, _, _, _⟩) (v := ?_) rfl (by kernel_rfl) (by kernel_rfl) (by kernel_rfl) (fun _ _ _ h => h) (Or.inl ⟨by rfl, ?_⟩) (by assumption) ?_
    rotate_left
    · ((intro w hSw; (try dsimp only at hSw); go_simp); (try with_reducible rfl))
    try simp only [Act.put, List.setIfInBounds_toArray, List.set_cons_zero, List.set_cons_succ]
    refine wpAnyH_take (i := 10) (oi := ⟨_, _, _, _, _, _⟩) (v := ?_) rfl (by kernel_rfl) (by kernel_rfl) (by kernel_rfl) (fun _ _ _ h => h) (Or.inl ⟨by rfl, ?_⟩) (by assumption) ?_
    rotate_left
    · ((intro w hSw; (try dsimp only at hSw); go_simp); (try with_reducible rfl))
    try simp only [Act.put, List.setIfInBounds_toArray, List.set_cons_zero, List.set_cons_succ]
    refine wpAnyH_ready (rs := [11]) (by kernel_rfl) (by simp) ?_
    refine AllReadyH.cons (o := ⟨_, _, _, _, _, _⟩) rfl (fun K hK => ?_) AllReadyH.nil
    refine (if_pos (show Region.wanted _ _ = true by kernel_rfl)).mpr ?_
    refine call_by 62 [.tmp 25, .tmp 27] #[24, 3] rfl run_tail [.slice (some ⟨bb, off, none⟩) l.length cap, .int .i64 ((n : Int) + 1)] rfl (tailOf_any _ l (n + 1) _ (R0.out _ (Below.and B3.out SL.out)) (by omega)) ?_
    rintro e u2 ⟨v2, rfl, r2, hu2⟩
    subst hu2
    obtain ⟨a2, b2', o2', q2, hv2, -⟩ := id r2
    subst hv2
    generalize hld : (l.drop (n + 1)).length = ld at *
    have HLD : Hid _ := hld
    have hld2 : ld ≤ 2097152 := by rw [← hld, List.length_drop]; omega
    clear hld
    have R2 : Hid (Row w1.drew (.slice a2 ld q2) ld (flatE (l.drop (n + 1)))) := r2
    clear r2
    refine ⟨_, rfl, ?_⟩
    refine hK.out _ _ (KEEP.out _ SL.out) (fun hH2 => ?_)
    clear hK K hH
    have hH := hH2
    clear hH2
    try simp only [Act.put, List.setIfInBounds_toArray, List.set_cons_zero, List.set_cons_succ]
    refine wpAnyH_ready (rs := [12]) (by kernel_rfl) (by simp) ?_
    refine AllReadyH.cons (o := ⟨_, _, _, _, _, _⟩) rfl (fun K hK => ?_) AllReadyH.nil
    go_simp
    have SL2 : Hid (Below w1.heap.size w1 ((w1.alloc (.cells #[.slice a2 ld q2] 24)).drew)) := (bel_nw _ _).drew
    have HX : Hid (((w1.alloc (.cells #[.slice a2 ld q2] 24)).drew).heap[w1.heap.size]? = some (.cells #[.slice a2 ld q2] 24 (0, 0))) := heap_alloc_new w1 _
    have R3 : Hid (Row ((w1.alloc (.cells #[.slice a2 ld q2] 24)).drew) (.slice a2 ld q2) ld (flatE (l.drop (n + 1)))) := by
      have h1 : Below w1.heap.size w1.drew ((w1.alloc (.cells #[.slice a2 ld q2] 24)).drew) := ((Below.refl _ w1.drew).alloc (Nat.le_refl _) _)
      exact Row.below R2.out h1
    refine hK.out _ _ (KEEP.out _ SL2.out) (fun hH2 => ?_)
    clear hK K hH
    have hH := hH2
    clear hH2
    try simp only [Act.put, List.setIfInBounds_toArray, List.set_cons_zero, List.set_cons_succ]
    generalize ((w1.alloc (.cells #[.slice a2 ld q2] 24)).drew) = W2 at *
    refine wpAnyH_ready (rs := [13]) (by kernel_rfl) (by simp) ?_
    refine AllReadyH.cons (o := ⟨_, _, _, _, _, _⟩) rfl (fun K hK => ?_) AllReadyH.nil
    refine (if_pos (show Region.wanted _ _ = true by kernel_rfl)).mpr ?_
    refine call_by 61 [.tmp 29] #[95] rfl run_joined _ rfl (joined_one w1.heap.size 24 (.slice a2 ld q2) (l.drop (n + 1)) _ HX.out (by rw [HLD.out]; exact R3.out) (by rw [HLD.out]; exact hld2)) ?_
    rintro e x ⟨v3, rfl, o3, b3⟩
    rw [HLD.out] at o3
    obtain ⟨a3, q3, hv3⟩ := owns_val o3
    subst hv3
    have SL3 : Hid (Below w1.heap.size w1 x) := Below.and SL2.out b3
    have zz2 : w1.heap.size ≤ W2.heap.size := SL2.out.size
    have O3 : Hid (x.ownsRow w1.heap.size 39 6 (.slice a3 ld q3) ld (flatE (l.drop (n + 1)))) := owns_mono o3 zz2
    clear o3 b3
    refine ⟨_, rfl, ?_⟩
    refine hK.out _ _ (KEEP.out _ SL3.out) (fun hH2 => ?_)
    clear hK K hH
    have hH := hH2
    clear hH2
    try simp only [Act.put, List.setIfInBounds_toArray, List.set_cons_zero, List.set_cons_succ]
    refine wpAnyH_take (i := 14) (oi := ⟨_, _, _, _, _, _⟩) (v := ?_) rfl (by kernel_rfl) (by kernel_rfl) (by kernel_rfl) (fun _ _ _ h => h) (Or.inl ⟨by rfl, ?_⟩) (by assumption) ?_
    rotate_left
    · ((intro w hSw; (try dsimp only at hSw); go_simp); (try with_reducible rfl))
    try simp only [Act.put, List.setIfInBounds_toArray, List.set_cons_zero, List.set_cons_succ]
    have M2 := N4.out.step SL3.out
    have m0 : x.cell? ⟨w.heap.size + 1, 0, none⟩ = some (.int .i64 0) := cell_of_cells M2
    have m1 : x.cell? ⟨w.heap.size + 1, 1, none⟩ = some (.int .i64 0) := cell_of_cells M2
    have m2 : x.cell? ⟨w.heap.size + 1, 2, none⟩ = some (.slice none 0 0) := cell_of_cells M2
    have f0 : ∀ j, x.frozen? ⟨w.heap.size + 1, j, none⟩ = false := fun j => frozen_of_cells M2
    have X := lg_all (.int .i64 i) (.int .i64 (eT l n)) (.slice a3 ld q3) M2
    have ch := lg_all_chg x (w.heap.size + 1) (.int .i64 i) (.int .i64 (eT l n)) (.slice a3 ld q3)
    have o4 := owns_chg O3.out ch (fun g hg e => by have := (O3.out.lt g hg).1; have := Z1.out; omega)
    have K1 := (N3.out.step SL3.out)
    have K2 := row_chg K1 ch (by omega)
    have d9 : x.cell? ⟨bb, off + n * 6, none⟩ = some (.int .i64 (eT l n)) := (SL3.out.cell (by exact cell_lt d0)).trans d0
    have hbb : bb < w.heap.size := by have := cell_lt (hx0 n hn); exact this
    have K3 : (((x.setCell ⟨w.heap.size + 1, 0, none⟩ (.int .i64 i)).setCell ⟨w.heap.size + 1, 1, none⟩ (.int .i64 (eT l n))).setCell ⟨w.heap.size + 1, 2, none⟩ (.slice a3 ld q3)).cell? ⟨bb, off + n * 6, none⟩ = some (.int .i64 (eT l n)) := by
      have hb5 : Below w.heap.size x (((x.setCell ⟨w.heap.size + 1, 0, none⟩ (.int .i64 i)).setCell ⟨w.heap.size + 1, 1, none⟩ (.int .i64 (eT l n))).setCell ⟨w.heap.size + 1, 2, none⟩ (.slice a3 ld q3)) := ch.below (fun g _ hg => by omega) (by have := SL3.out.size; have := Z1.out; omega)
      exact (hb5.cell hbb).trans d9
    have BB := (Below.and B3.out SL3.out)
    have BF := BB.trans (ch.below (fun g _ hg => by omega) BB.size)
    have FIN : Hid (_ ∧ _ ∧ _) := And.intro X (And.intro (owns_mono (base' := w.heap.size) o4 (by have := Z1.out; omega)) BF)
    have KS : Hid _ := And.intro K2 K3
    clear M2 X ch o4 K1 K2 K3 BB BF d9 d0 c1
    refine wpAnyH_ready (rs := [15]) (by kernel_rfl) (by simp) ?_
    refine AllReadyH.cons (o := ⟨_, _, _, _, _, _⟩) rfl (fun K hK => ?_) AllReadyH.nil
    go_simp
    refine hK.out _ _ (⟨cell_of_cells KS.out.1, cell_of_cells KS.out.1, cell_of_cells KS.out.1, KS.out.2⟩) (fun hH2 => ?_)
    clear hK K hH
    have hH := hH2
    clear hH2
    try simp only [Act.put, List.setIfInBounds_toArray, List.set_cons_zero, List.set_cons_succ]
    refine wpAnyH_done (by kernel_rfl) ?_ _
    clear hH m0 m1 m2 f0
    go_wp2_with fail
    simp [bodyPost, results, Try.results22, go_sem, cell_of_cells FIN.out.1]
    exact ⟨_, ⟨E.out.2.1.symm, E.out.2.2.symm, rfl⟩, by rw [E.out.1, HLD.out]; exact FIN.out.2.1, FIN.out.2.2⟩

end Go.Proofs.Yteegcblndbljlaa
