/-
  The model's copy of a log.
-/
import Derived.Test.YteegcblndbljlaaEntsSl
import Derived.Deep.RegionHeld3
namespace Go.Proofs.Yteegcblndbljlaa
open Go.RowKit

set_option maxRecDepth 100000 in
set_option maxHeartbeats 2000000 in
theorem l8Copy_any (b bt : Int) (v : Value) (l : EL) (w : World) (h : Row w v l.length (flatE l)) (hs : l.length ≤ 2097152) :
    Calls Try.prog 53 #[lgV b bt v] w fun e w' => ∃ v', e = .returned (lgV b bt v') ∧ OwnE w' w.heap.size 39 6 v' l.length (flatE l) ∧ Below w.heap.size w w' := by
  obtain ⟨i0, hi0, hz0, hz1, hz2⟩ := info_parts Try.info39
  obtain ⟨a, bb, off, cap, rfl, hcap, hmax, -⟩ := h.ents
  have N1 : Hid (MBox 26 ((w.alloc (.cells #[.int .i64 b, .int .i64 bt, .slice a l.length cap] 26)).alloc (.cells #[.int .i64 0, .int .i64 0, .slice none 0 0] 26)) w.heap.size #[.int .i64 b, .int .i64 bt, .slice a l.length cap]) := (MBox.start _ _ _).step (bel_nw _ _)
  have N2 : Hid (MBox 26 ((w.alloc (.cells #[.int .i64 b, .int .i64 bt, .slice a l.length cap] 26)).alloc (.cells #[.int .i64 0, .int .i64 0, .slice none 0 0] 26)) (w.heap.size + 1) #[.int .i64 0, .int .i64 0, .slice none 0 0]) := by
    have := MBox.start 26 (w.alloc (.cells #[.int .i64 b, .int .i64 bt, .slice a l.length cap] 26)) #[.int .i64 0, .int .i64 0, .slice none 0 0]
    rw [World.size_alloc] at this
    exact this
  have B2 : Hid (Below w.heap.size w ((w.alloc (.cells #[.int .i64 b, .int .i64 bt, .slice a l.length cap] 26)).alloc (.cells #[.int .i64 0, .int .i64 0, .slice none 0 0] 26))) := Below.and (bel_nw _ _) (bel_nw _ _)
  have zz : ((w.alloc (.cells #[.int .i64 b, .int .i64 bt, .slice a l.length cap] 26)).alloc (.cells #[.int .i64 0, .int .i64 0, .slice none 0 0] 26)).heap.size = w.heap.size + 2 := by simp
  have ZZ : Hid _ := zz
  have R1 : Hid _ := h
  have Z1 : Hid _ := room_rowE (n := l.length) (bytes := 48) (by omega) (by decide)
  clear h hcap hmax zz
  go_enter Try.func53, Try.ntmps53
  go_wp2_with fail
  generalize ((w.alloc (.cells #[.int .i64 b, .int .i64 bt, .slice a l.length cap] 26)).alloc (.cells #[.int .i64 0, .int .i64 0, .slice none 0 0] 26)) = W at *
  have KEEP : Hid (∀ u, Below W.heap.size W u → (fun u => u.cell? ⟨w.heap.size, 0, none⟩ = some (.int .i64 b) ∧ u.cell? ⟨w.heap.size, 1, none⟩ = some (.int .i64 bt) ∧ u.cell? ⟨w.heap.size, 2, none⟩ = some (.slice a l.length cap)) u) := fun u hu => by
    have k := (N1.out.step hu).cells
    exact ⟨k 0, k 1, k 2⟩
  have SL : Hid (Below W.heap.size W W.drew) := (Below.refl _ _).drew
  refine wp_region_held_drew (S := (fun u => u.cell? ⟨w.heap.size, 0, none⟩ = some (.int .i64 b) ∧ u.cell? ⟨w.heap.size, 1, none⟩ = some (.int .i64 bt) ∧ u.cell? ⟨w.heap.size, 2, none⟩ = some (.slice a l.length cap))) (by kernel_rfl) (KEEP.out _ SL.out) (fun hH => ?_)
  refine wpAnyH_take (i := 0) (oi := ⟨_, _, _, _, _, _⟩) (v := ?_) rfl (by kernel_rfl) (by kernel_rfl) (by kernel_rfl) (fun _ _ _ h => h) (Or.inl ⟨by rfl, ?_⟩) (by assumption) ?_
  rotate_left
  · ((intro w hSw; (try dsimp only at hSw); go_simp); (try with_reducible rfl))
  try simp only [Act.put, List.setIfInBounds_toArray, List.set_cons_zero, List.set_cons_succ]
  refine wpAnyH_take (i := 1) (oi := ⟨_, _, _, _, _, _⟩) (v := ?_) rfl (by kernel_rfl) (by kernel_rfl) (by kernel_rfl) (fun _ _ _ h => h) (Or.inl ⟨by rfl, ?_⟩) (by assumption) ?_
  rotate_left
  · ((intro w hSw; (try dsimp only at hSw); go_simp); (try with_reducible rfl))
  try simp only [Act.put, List.setIfInBounds_toArray, List.set_cons_zero, List.set_cons_succ]
  refine wpAnyH_take (i := 2) (oi := ⟨_, _, _, _, _, _⟩) (v := ?_) rfl (by kernel_rfl) (by kernel_rfl) (by kernel_rfl) (fun _ _ _ h => h) (Or.inl ⟨by rfl, ?_⟩) (by assumption) ?_
  rotate_left
  · ((intro w hSw; (try dsimp only at hSw); go_simp); (try with_reducible rfl))
  try simp only [Act.put, List.setIfInBounds_toArray, List.set_cons_zero, List.set_cons_succ]
  refine wpAnyH_take (i := 3) (oi := ⟨_, _, _, _, _, _⟩) (v := ?_) rfl (by kernel_rfl) (by kernel_rfl) (by kernel_rfl) (fun _ _ _ h => h) (Or.inl ⟨by rfl, ?_⟩) (by assumption) ?_
  rotate_left
  · ((intro w hSw; (try dsimp only at hSw); go_simp); (try with_reducible rfl))
  try simp only [Act.put, List.setIfInBounds_toArray, List.set_cons_zero, List.set_cons_succ]
  refine wpAnyH_take (i := 5) (oi := ⟨_, _, _, _, _, _⟩) (v := ?_) rfl (by kernel_rfl) (by kernel_rfl) (by kernel_rfl) (fun _ _ _ h => h) (Or.inl ⟨by rfl, ?_⟩) (by assumption) ?_
  rotate_left
  · ((intro w hSw; (try dsimp only at hSw); go_simp); (try with_reducible rfl))
  try simp only [Act.put, List.setIfInBounds_toArray, List.set_cons_zero, List.set_cons_succ]
  refine wpAnyH_take (i := 6) (oi := ⟨_, _, _, _, _, _⟩) (v := ?_) rfl (by kernel_rfl) (by kernel_rfl) (by kernel_rfl) (fun _ _ _ h => h) (Or.inl ⟨by rfl, ?_⟩) (by assumption) ?_
  rotate_left
  · ((intro w hSw; (try dsimp only at hSw); go_simp); (try with_reducible rfl))
  try simp only [Act.put, List.setIfInBounds_toArray, List.set_cons_zero, List.set_cons_succ]
  refine wpAnyH_ready (rs := [4]) (by kernel_rfl) (by simp) ?_
  refine AllReadyH.cons (o := ⟨_, _, _, _, _, _⟩) rfl (fun K hK => ?_) AllReadyH.nil
  go_simp
  have SL2 : Hid (Below W.heap.size W ((W.alloc (.cells #[] 39)).drew)) := (bel_nw _ _).drew
  refine hK.out _ _ (KEEP.out _ SL2.out) (fun hH2 => ?_)
  clear hK K hH
  have hH := hH2
  clear hH2
  try simp only [Act.put, List.setIfInBounds_toArray, List.set_cons_zero, List.set_cons_succ]
  generalize hW2 : (W.alloc (.cells #[] 39)).drew = W2 at *
  clear hW2
  refine wpAnyH_ready (rs := [7]) (by kernel_rfl) (by simp) ?_
  refine AllReadyH.cons (o := ⟨_, _, _, _, _, _⟩) rfl (fun K hK => ?_) AllReadyH.nil
  refine step_appE W2 rfl _ _ 24 rfl w.heap.size 39 i0 _ 6 48 Try.underlying24 hi0 hz0 hz1 hz2 rfl (by decide) (.slice (some ⟨W.heap.size, 0, none⟩) 0 0) 0 [] rfl (OwnE.zero _ _ _ _ _) (.slice a l.length cap) l.length (flatE l) rfl ((Row.below R1.out B2.out).below SL2.out) (flatE_length l) (flatE_one _) Z1.out.1 Z1.out.2 (Nat.le_trans B2.out.size SL2.out.size) ?_
  intro v' x AP
  have AE := AP.1
  rw [Nat.zero_add, List.nil_append] at AE
  have bx : Below W2.heap.size W2 x := AP.2.1.below (fun g _ h => absurd h (wrB_zero _ _)) (Nat.le_refl _)
  obtain ⟨a3, q3, hv3⟩ := AE.slice
  subst hv3
  have SL3 : Hid (Below W.heap.size W x) := Below.and SL2.out bx
  have AE3 : Hid (OwnE x w.heap.size 39 6 (.slice a3 l.length q3) l.length (flatE l)) := AE
  clear AP AE bx
  refine hK.out _ _ (KEEP.out _ SL3.out) (fun hH2 => ?_)
  clear hK K hH
  have hH := hH2
  clear hH2
  try simp only [Act.put, List.setIfInBounds_toArray, List.set_cons_zero, List.set_cons_succ]
  refine wpAnyH_take (i := 8) (oi := ⟨_, _, _, _, _, _⟩) (v := ?_) rfl (by kernel_rfl) (by kernel_rfl) (by kernel_rfl) (fun _ _ _ h => h) (Or.inl ⟨by rfl, ?_⟩) (by assumption) ?_
  rotate_left
  · ((intro w hSw; (try dsimp only at hSw); go_simp); (try with_reducible rfl))
  try simp only [Act.put, List.setIfInBounds_toArray, List.set_cons_zero, List.set_cons_succ]
  have M2 := N2.out.step SL3.out
  have m0 : x.cell? ⟨w.heap.size + 1, 0, none⟩ = some (.int .i64 0) := cell_of_cells M2
  have m1 : x.cell? ⟨w.heap.size + 1, 1, none⟩ = some (.int .i64 0) := cell_of_cells M2
  have m2 : x.cell? ⟨w.heap.size + 1, 2, none⟩ = some (.slice none 0 0) := cell_of_cells M2
  have f0 : ∀ j, x.frozen? ⟨w.heap.size + 1, j, none⟩ = false := fun j => frozen_of_cells M2
  have X := lg_all (.int .i64 b) (.int .i64 bt) (.slice a3 l.length q3) M2
  have ch := lg_all_chg x (w.heap.size + 1) (.int .i64 b) (.int .i64 bt) (.slice a3 l.length q3)
  have AE4 := OwnE.chg AE3.out ch (fun g hg => ownE_apart AE3.out M2 (by decide) hg)
  have K1 := (N1.out.step SL3.out)
  have K2 := row_chg K1 ch (by omega)
  have BB := (Below.and B2.out SL3.out)
  have BF := BB.trans (ch.below (fun g _ hg => by omega) BB.size)
  have FIN : Hid _ := And.intro X (And.intro AE4 BF)
  have KS : Hid _ := K2
  clear M2 X ch AE4 K1 K2 BB BF
  refine wpAnyH_ready (rs := [9]) (by kernel_rfl) (by simp) ?_
  refine AllReadyH.cons (o := ⟨_, _, _, _, _, _⟩) rfl (fun K hK => ?_) AllReadyH.nil
  go_simp
  refine hK.out _ _ (⟨cell_of_cells KS.out, cell_of_cells KS.out, cell_of_cells KS.out⟩) (fun hH2 => ?_)
  clear hK K hH
  have hH := hH2
  clear hH2
  try simp only [Act.put, List.setIfInBounds_toArray, List.set_cons_zero, List.set_cons_succ]
  refine wpAnyH_done (by kernel_rfl) ?_ _
  clear hH m0 m1 m2 f0
  go_wp2_with fail
  simp [bodyPost, results, Try.results53, go_sem, cell_of_cells FIN.out.1]
  exact FIN.out.2

end Go.Proofs.Yteegcblndbljlaa
