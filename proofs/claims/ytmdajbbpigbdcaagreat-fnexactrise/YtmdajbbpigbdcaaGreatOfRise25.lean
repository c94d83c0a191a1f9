/-
  The program's tailOf, headOf, EntriesFrom, copyOfLog.
  The model's copy of a log.
  copyOfLog of the program; LogCut of both sides.
-/
import Derived.Test.YtmdajbbpigbdcaaGreatOfRise24
import Derived.Deep.RegionHeld3
import Derived.Test.YtmdajbbpigbdcaaGreatOfRise17
namespace Go.Proofs.YtmdajbbpigbdcaaGreat
set_option maxRecDepth 100000
set_option maxHeartbeats 8000000
section
open Go.RowKit

theorem Row.of_box {w : World} {B t k : Nat} {xs : List Value} (h : w.heap[B]? = some (.cells xs.toArray t (0, 0))) (hk : k ≤ maxLen) : Row w (.slice (some ⟨B, 0, none⟩) k k) k xs :=
 ⟨_, B, 0, k, rfl, Nat.le_refl _, hk, fun _ => rfl, fun j u hj => by rw [cell_of_cells h]; simpa using hj, fun h => by cases h⟩

theorem joined_one (B t : Nat) (v : Value) (l : EL) (w : World) (hB : w.heap[B]? = some (.cells #[v] t (0, 0))) (h : Row w v l.length (flatE l)) (hs : l.length ≤ 2097152) :
  Calls Tryz.prog 94 #[.slice (some ⟨B, 0, none⟩) 1 1] w fun e w' => ∃ v', e = .returned v' ∧ w'.ownsRow w.heap.size 113 6 v' l.length (flatE l) ∧ Below w.heap.size w w' := by
 have hj : joinP [(v, l)] [(v, l)].length = l := by simp [joinP]
 have := joined_any (.slice (some ⟨B, 0, none⟩) 1 1) [(v, l)] w (Row.of_box (xs := [v]) hB (by decide)) (fun j hj => by
  obtain rfl : j = 0 := by simpa using hj
  simpa [ptV, ptL] using h) (by rw [hj]; exact hs)
 rw [hj] at this
 exact this
end
section
open Go.RowKit

theorem l8Copy_any (b bt : Int) (v : Value) (l : EL) (w : World) (h : Row w v l.length (flatE l)) (hs : l.length ≤ 2097152) :
  Calls Tryz.prog 56 #[lgV b bt v] w fun e w' => ∃ v', e = .returned (lgV b bt v') ∧ OwnE w' w.heap.size 113 6 v' l.length (flatE l) ∧ Below w.heap.size w w' := by
 obtain ⟨i0, hi0, hz0, hz1, hz2⟩ := info_parts Tryz.info113
 obtain ⟨a, bb, off, cap, rfl, hcap, hmax, -⟩ := h.ents
 have N1 : Hid (MBox 40 ((w.alloc (.cells #[.int .i64 b, .int .i64 bt, .slice a l.length cap] 40)).alloc (.cells #[.int .i64 0, .int .i64 0, .slice none 0 0] 40)) w.heap.size #[.int .i64 b, .int .i64 bt, .slice a l.length cap]) := (MBox.start _ _ _).step (bel_nw _ _)
 have N2 : Hid (MBox 40 ((w.alloc (.cells #[.int .i64 b, .int .i64 bt, .slice a l.length cap] 40)).alloc (.cells #[.int .i64 0, .int .i64 0, .slice none 0 0] 40)) (w.heap.size + 1) #[.int .i64 0, .int .i64 0, .slice none 0 0]) := by
  have := MBox.start 40 (w.alloc (.cells #[.int .i64 b, .int .i64 bt, .slice a l.length cap] 40)) #[.int .i64 0, .int .i64 0, .slice none 0 0]
  rw [World.size_alloc] at this
  exact this
 have B2 : Hid (Below w.heap.size w ((w.alloc (.cells #[.int .i64 b, .int .i64 bt, .slice a l.length cap] 40)).alloc (.cells #[.int .i64 0, .int .i64 0, .slice none 0 0] 40))) := Below.and (bel_nw _ _) (bel_nw _ _)
 have zz : ((w.alloc (.cells #[.int .i64 b, .int .i64 bt, .slice a l.length cap] 40)).alloc (.cells #[.int .i64 0, .int .i64 0, .slice none 0 0] 40)).heap.size = w.heap.size + 2 := by simp
 have ZZ : Hid _ := zz
 have R1 : Hid _ := h
 have Z1 : Hid _ := room_rowE (n := l.length) (bytes := 48) (by omega) (by decide)
 clear h hcap hmax zz
 go_enter Tryz.func56, Tryz.ntmps56
 go_wp2_with fail
 generalize ((w.alloc (.cells #[.int .i64 b, .int .i64 bt, .slice a l.length cap] 40)).alloc (.cells #[.int .i64 0, .int .i64 0, .slice none 0 0] 40)) = W at *
 have KEEP : Hid (∀ u, Below W.heap.size W u → (fun u => u.cell? ⟨w.heap.size, 0, none⟩ = some (.int .i64 b) ∧ u.cell? ⟨w.heap.size, 1, none⟩ = some (.int .i64 bt) ∧ u.cell? ⟨w.heap.size, 2, none⟩ = some (.slice a l.length cap)) u) := fun u hu => by
  have k := (N1.out.step hu).cells
  exact ⟨k 0, k 1, k 2⟩
 have SL : Hid (Below W.heap.size W W.drew) := (Below.refl _ _).drew
 refine wp_region_held_drew (S := (fun u => u.cell? ⟨w.heap.size, 0, none⟩ = some (.int .i64 b) ∧ u.cell? ⟨w.heap.size, 1, none⟩ = some (.int .i64 bt) ∧ u.cell? ⟨w.heap.size, 2, none⟩ = some (.slice a l.length cap))) (by kernel_rfl) (KEEP.out _ SL.out) (fun hH => ?_)
 refine wpAnyH_take (i := 0) (oi := ⟨_, _, _, _, _, _⟩) (v := ?_) rfl (by kernel_rfl) (by kernel_rfl) (by kernel_rfl) (fun _ _ _ h => h) (Or.inl ⟨by rfl, ?_⟩) (by assumption) ?_
 rotate_left
 ·((intro w hSw; (try dsimp only at hSw); go_simp); (try with_reducible rfl))
 try simp only [Act.put, List.setIfInBounds_toArray, List.set_cons_zero, List.set_cons_succ]
 refine wpAnyH_take (i := 1) (oi := ⟨_, _, _, _, _, _⟩) (v := ?_) rfl (by kernel_rfl) (by kernel_rfl) (by kernel_rfl) (fun _ _ _ h => h) (Or.inl ⟨by rfl, ?_⟩) (by assumption) ?_
 rotate_left
 ·((intro w hSw; (try dsimp only at hSw); go_simp); (try with_reducible rfl))
 try simp only [Act.put, List.setIfInBounds_toArray, List.set_cons_zero, List.set_cons_succ]
 refine wpAnyH_take (i := 2) (oi := ⟨_, _, _, _, _, _⟩) (v := ?_) rfl (by kernel_rfl) (by kernel_rfl) (by kernel_rfl) (fun _ _ _ h => h) (Or.inl ⟨by rfl, ?_⟩) (by assumption) ?_
 rotate_left
 ·((intro w hSw; (try dsimp only at hSw); go_simp); (try with_reducible rfl))
 try simp only [Act.put, List.setIfInBounds_toArray, List.set_cons_zero, List.set_cons_succ]
 refine wpAnyH_take (i := 3) (oi := ⟨_, _, _, _, _, _⟩) (v := ?_) rfl (by kernel_rfl) (by kernel_rfl) (by kernel_rfl) (fun _ _ _ h => h) (Or.inl ⟨by rfl, ?_⟩) (by assumption) ?_
 rotate_left
 ·((intro w hSw; (try dsimp only at hSw); go_simp); (try with_reducible rfl))
 try simp only [Act.put, List.setIfInBounds_toArray, List.set_cons_zero, List.set_cons_succ]
 refine wpAnyH_take (i := 5) (oi := ⟨_, _, _, _, _, _⟩) (v := ?_) rfl (by kernel_rfl) (by kernel_rfl) (by kernel_rfl) (fun _ _ _ h => h) (Or.inl ⟨by rfl, ?_⟩) (by assumption) ?_
 rotate_left
 ·((intro w hSw; (try dsimp only at hSw); go_simp); (try with_reducible rfl))
 try simp only [Act.put, List.setIfInBounds_toArray, List.set_cons_zero, List.set_cons_succ]
 refine wpAnyH_take (i := 6) (oi := ⟨_, _, _, _, _, _⟩) (v := ?_) rfl (by kernel_rfl) (by kernel_rfl) (by kernel_rfl) (fun _ _ _ h => h) (Or.inl ⟨by rfl, ?_⟩) (by assumption) ?_
 rotate_left
 ·((intro w hSw; (try dsimp only at hSw); go_simp); (try with_reducible rfl))
 try simp only [Act.put, List.setIfInBounds_toArray, List.set_cons_zero, List.set_cons_succ]
 refine wpAnyH_ready (rs := [4]) (by kernel_rfl) (by simp) ?_
 refine AllReadyH.cons (o := ⟨_, _, _, _, _, _⟩) rfl (fun K hK => ?_) AllReadyH.nil
 go_simp
 have SL2 : Hid (Below W.heap.size W ((W.alloc (.cells #[] 113)).drew)) := (bel_nw _ _).drew
 refine hK.out _ _ (KEEP.out _ SL2.out) (fun hH2 => ?_)
 clear hK K hH
 have hH := hH2
 clear hH2
 try simp only [Act.put, List.setIfInBounds_toArray, List.set_cons_zero, List.set_cons_succ]
 generalize hW2 : (W.alloc (.cells #[] 113)).drew = W2 at *
 clear hW2
 refine wpAnyH_ready (rs := [7]) (by kernel_rfl) (by simp) ?_
 refine AllReadyH.cons (o := ⟨_, _, _, _, _, _⟩) rfl (fun K hK => ?_) AllReadyH.nil
 refine step_appE W2 rfl _ _ 38 rfl w.heap.size 113 i0 _ 6 48 Tryz.underlying38 hi0 hz0 hz1 hz2 rfl (by decide) (.slice (some ⟨W.heap.size, 0, none⟩) 0 0) 0 [] rfl (OwnE.zero _ _ _ _ _) (.slice a l.length cap) l.length (flatE l) rfl ((Row.below R1.out B2.out).below SL2.out) (flatE_length l) (flatE_one _) Z1.out.1 Z1.out.2 (Nat.le_trans B2.out.size SL2.out.size) ?_
 intro v' x AP
 have AE := AP.1
 rw [Nat.zero_add, List.nil_append] at AE
 have bx : Below W2.heap.size W2 x := AP.2.1.below (fun g _ h => absurd h (wrB_zero _ _)) (Nat.le_refl _)
 obtain ⟨a3, q3, hv3⟩ := AE.slice
 subst hv3
 have SL3 : Hid (Below W.heap.size W x) := Below.and SL2.out bx
 have AE3 : Hid (OwnE x w.heap.size 113 6 (.slice a3 l.length q3) l.length (flatE l)) := AE
 clear AP AE bx
 refine hK.out _ _ (KEEP.out _ SL3.out) (fun hH2 => ?_)
 clear hK K hH
 have hH := hH2
 clear hH2
 try simp only [Act.put, List.setIfInBounds_toArray, List.set_cons_zero, List.set_cons_succ]
 refine wpAnyH_take (i := 8) (oi := ⟨_, _, _, _, _, _⟩) (v := ?_) rfl (by kernel_rfl) (by kernel_rfl) (by kernel_rfl) (fun _ _ _ h => h) (Or.inl ⟨by rfl, ?_⟩) (by assumption) ?_
 rotate_left
 ·((intro w hSw; (try dsimp only at hSw); go_simp); (try with_reducible rfl))
 try simp only [Act.put, List.setIfInBounds_toArray, List.set_cons_zero, List.set_cons_succ]
 have M2 := N2.out.step SL3.out
 have m0 : x.cell? ⟨w.heap.size + 1, 0, none⟩ = some (.int .i64 0) := cell_of_cells M2
 have m1 : x.cell? ⟨w.heap.size + 1, 1, none⟩ = some (.int .i64 0) := cell_of_cells M2
 have m2 : x.cell? ⟨w.heap.size + 1, 2, none⟩ = some (.slice none 0 0) := cell_of_cells M2
 have f0 : ∀ j, x.frozen? ⟨w.heap.size + 1, j, none⟩ = false := fun j => frozen_of_cells M2
 have X := lg_all (.int .i64 b) (.int .i64 bt) (.slice a3 l.length q3) M2
 have ch := lg_all_chg x (w.heap.size + 1) (.int .i64 b) (.int .i64 bt) (.slice a3 l.length q3)
 have AE4 := OwnE.chg AE3.out ch (fun g hg => ownE_apart AE3.out M2 (by decide) hg)
 have K1 := (N1.out.step SL3.out)
 have K2 := row_chg K1 ch (by omega)
 have BB := (Below.and B2.out SL3.out)
 have BF := BB.trans (ch.below (fun g _ hg => by omega) BB.size)
 have FIN : Hid _ := And.intro X (And.intro AE4 BF)
 have KS : Hid _ := K2
 clear M2 X ch AE4 K1 K2 BB BF
 refine wpAnyH_ready (rs := [9]) (by kernel_rfl) (by simp) ?_
 refine AllReadyH.cons (o := ⟨_, _, _, _, _, _⟩) rfl (fun K hK => ?_) AllReadyH.nil
 go_simp
 refine hK.out _ _ (⟨cell_of_cells KS.out, cell_of_cells KS.out, cell_of_cells KS.out⟩) (fun hH2 => ?_)
 clear hK K hH
 have hH := hH2
 clear hH2
 try simp only [Act.put, List.setIfInBounds_toArray, List.set_cons_zero, List.set_cons_succ]
 refine wpAnyH_done (by kernel_rfl) ?_ _
 clear hH m0 m1 m2 f0
 go_wp2_with fail
 simp [bodyPost, results, Tryz.results56, go_sem, cell_of_cells FIN.out.1]
 exact FIN.out.2
end
section
open Go.RowKit

def lcL (b : Int) (l : EL) (i : Int) : EL := match placeB b l i with | some n => l.drop (n + 1) | none => l
def lcB (b : Int) (l : EL) (i : Int) : Int := match placeB b l i with | some _ => i | none => b
def lcT (b bt : Int) (l : EL) (i : Int) : Int := match placeB b l i with | some n => eT l n | none => bt
theorem copyOfLog_any (b bt : Int) (v : Value) (l : EL) (w : World) (h : Row w v l.length (flatE l)) (hs : l.length ≤ 2097152) :
  Calls Tryz.prog 64 #[lgV b bt v] w fun e w' => ∃ v', e = .returned (lgV b bt v') ∧ w'.ownsRow w.heap.size 113 6 v' l.length (flatE l) ∧ Below w.heap.size w w' := by
 obtain ⟨a, bb, off, cap, rfl, hcap, hmax, -⟩ := h.ents
 have W0 : ∃ W, W = (((w.alloc (.cells #[.int .i64 b, .int .i64 bt, .slice a l.length cap] 40)).alloc (.cells #[.int .i64 0, .int .i64 0, .slice none 0 0] 40)).alloc (.cells #[.slice a l.length cap] 38)) := ⟨_, rfl⟩
 have N1 : Hid (MBox 40 (((w.alloc (.cells #[.int .i64 b, .int .i64 bt, .slice a l.length cap] 40)).alloc (.cells #[.int .i64 0, .int .i64 0, .slice none 0 0] 40)).alloc (.cells #[.slice a l.length cap] 38)) w.heap.size #[.int .i64 b, .int .i64 bt, .slice a l.length cap]) := ((MBox.start _ _ _).step (bel_nw _ _)).step (bel_nw _ _)
 have N2 : Hid (MBox 40 (((w.alloc (.cells #[.int .i64 b, .int .i64 bt, .slice a l.length cap] 40)).alloc (.cells #[.int .i64 0, .int .i64 0, .slice none 0 0] 40)).alloc (.cells #[.slice a l.length cap] 38)) (w.heap.size + 1) #[.int .i64 0, .int .i64 0, .slice none 0 0]) := by
  have := (MBox.start 40 (w.alloc (.cells #[.int .i64 b, .int .i64 bt, .slice a l.length cap] 40)) #[.int .i64 0, .int .i64 0, .slice none 0 0]).step (bel_nw _ (.cells #[.slice a l.length cap] 38))
  rw [World.size_alloc] at this
  exact this
 have N3 : Hid (MBox 38 (((w.alloc (.cells #[.int .i64 b, .int .i64 bt, .slice a l.length cap] 40)).alloc (.cells #[.int .i64 0, .int .i64 0, .slice none 0 0] 40)).alloc (.cells #[.slice a l.length cap] 38)) (w.heap.size + 1 + 1) #[.slice a l.length cap]) := by
  have := MBox.start 38 ((w.alloc (.cells #[.int .i64 b, .int .i64 bt, .slice a l.length cap] 40)).alloc (.cells #[.int .i64 0, .int .i64 0, .slice none 0 0] 40)) #[.slice a l.length cap]
  rw [World.size_alloc, World.size_alloc] at this
  exact this
 have B2 : Hid (Below w.heap.size w (((w.alloc (.cells #[.int .i64 b, .int .i64 bt, .slice a l.length cap] 40)).alloc (.cells #[.int .i64 0, .int .i64 0, .slice none 0 0] 40)).alloc (.cells #[.slice a l.length cap] 38))) := Below.and (Below.and (bel_nw _ _) (bel_nw _ _)) (bel_nw _ _)
 have ZZ : Hid ((((w.alloc (.cells #[.int .i64 b, .int .i64 bt, .slice a l.length cap] 40)).alloc (.cells #[.int .i64 0, .int .i64 0, .slice none 0 0] 40)).alloc (.cells #[.slice a l.length cap] 38)).heap.size = w.heap.size + 3) := by show _ = _; simp
 have R1 : Hid (Row w (.slice a l.length cap) l.length (flatE l)) := h
 clear h hcap hmax W0
 go_enter Tryz.func64, Tryz.ntmps64
 go_wp2_with fail
 generalize (((w.alloc (.cells #[.int .i64 b, .int .i64 bt, .slice a l.length cap] 40)).alloc (.cells #[.int .i64 0, .int .i64 0, .slice none 0 0] 40)).alloc (.cells #[.slice a l.length cap] 38)) = W at *
 refine (joined_one _ _ _ l W N3.out (R1.out.below B2.out) hs).mono ?_
 rintro e w3 ⟨v3, rfl, o3, b3⟩
 obtain ⟨a5, q5, hv3⟩ := owns_val o3
 subst hv3
 have zz := ZZ.out
 generalize hm5 : l.length = m5 at *
 have s1 := N2.out.step b3
 have s2 := N1.out.step b3
 have B3 := Below.and B2.out b3
 have u2 := lg_last (.slice a5 m5 q5) s2
 have g3 := lg_last_chg w3 w.heap.size (.slice a5 m5 q5)
 have u1 := row_chg s1 g3 (by omega)
 have o4 := owns_chg o3 g3 (fun g hg e => by have := (o3.lt g hg).1; omega)
 have B4 := B3.trans (g3.below (fun g _ hg => by omega) B3.size)
 have x1 := lg_all (.int .i64 b) (.int .i64 bt) (.slice a5 m5 q5) u1
 have g5 := lg_all_chg (w3.setCell ⟨w.heap.size, 2, none⟩ (.slice a5 m5 q5)) (w.heap.size + 1) (.int .i64 b) (.int .i64 bt) (.slice a5 m5 q5)
 have o5 := owns_chg o4 g5 (fun g hg e => by have := (o4.lt g hg).1; omega)
 have B5 := B4.trans (g5.below (fun g _ hg => by omega) B4.size)
 have f2 : ∀ j, w3.frozen? ⟨w.heap.size, j, none⟩ = false := fun j => frozen_of_cells s2
 have f3 : ∀ j, (w3.setCell ⟨w.heap.size, 2, none⟩ (.slice a5 m5 q5)).frozen? ⟨w.heap.size + 1, j, none⟩ = false := fun j => frozen_of_cells u1
 have c2 : ∀ j, w3.cell? ⟨w.heap.size, j, none⟩ = (#[.int .i64 b, .int .i64 bt, .slice a m5 cap] : Array Value)[j]? := fun j => cell_of_cells s2
 have c3 : ∀ j, (w3.setCell ⟨w.heap.size, 2, none⟩ (.slice a5 m5 q5)).cell? ⟨w.heap.size, j, none⟩ = (#[.int .i64 b, .int .i64 bt, .slice a5 m5 q5] : Array Value)[j]? := fun j => cell_of_cells u2
 have c4 : ∀ j, (w3.setCell ⟨w.heap.size, 2, none⟩ (.slice a5 m5 q5)).cell? ⟨w.heap.size + 1, j, none⟩ = (#[.int .i64 0, .int .i64 0, .slice none 0 0] : Array Value)[j]? := fun j => cell_of_cells u1
 have X1 : Hid _ := x1
 have K : Hid _ := And.intro (owns_mono (base' := w.heap.size) o5 (by omega)) B5
 have HM : Hid _ := hm5
 clear s1 s2 B3 u2 g3 u1 o4 B4 x1 g5 o5 B5 o3 b3 zz hm5
 go_wp2_with fail
 simp [bodyPost, results, Tryz.results64, go_sem, cell_of_cells X1.out]
 rw [HM.out]
 exact K.out
end
end Go.Proofs.YtmdajbbpigbdcaaGreat
