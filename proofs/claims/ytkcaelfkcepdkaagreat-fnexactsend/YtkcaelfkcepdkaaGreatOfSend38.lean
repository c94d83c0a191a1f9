/-
  copyOfLog of the program; LogCut of both sides.
-/
import Derived.Test.YtkcaelfkcepdkaaGreatOfSend36
import Derived.Test.YtkcaelfkcepdkaaGreatOfSend37
import Derived.Test.YtkcaelfkcepdkaaGreatOfSend10
import Derived.Deep.RegionHeld3
namespace Go.Proofs.YtkcaelfkcepdkaaGreat
set_option maxRecDepth 100000
set_option maxHeartbeats 8000000
section
open Go.RowKit

def lcL (b : Int) (l : EL) (i : Int) : EL := match placeB b l i with | some n => l.drop (n + 1) | none => l
def lcB (b : Int) (l : EL) (i : Int) : Int := match placeB b l i with | some _ => i | none => b
def lcT (b bt : Int) (l : EL) (i : Int) : Int := match placeB b l i with | some n => eT l n | none => bt
theorem copyOfLog_any (b bt : Int) (v : Value) (l : EL) (w : World) (h : Row w v l.length (flatE l)) (hs : l.length ≤ 2097152) :
  Calls Tryz.prog 108 #[lgV b bt v] w fun e w' => ∃ v', e = .returned (lgV b bt v') ∧ w'.ownsRow w.heap.size 119 6 v' l.length (flatE l) ∧ Below w.heap.size w w' := by
 obtain ⟨a, bb, off, cap, rfl, hcap, hmax, -⟩ := h.ents
 have W0 : ∃ W, W = (((w.alloc (.cells #[.int .i64 b, .int .i64 bt, .slice a l.length cap] 64)).alloc (.cells #[.int .i64 0, .int .i64 0, .slice none 0 0] 64)).alloc (.cells #[.slice a l.length cap] 62)) := ⟨_, rfl⟩
 have N1 : Hid (MBox 64 (((w.alloc (.cells #[.int .i64 b, .int .i64 bt, .slice a l.length cap] 64)).alloc (.cells #[.int .i64 0, .int .i64 0, .slice none 0 0] 64)).alloc (.cells #[.slice a l.length cap] 62)) w.heap.size #[.int .i64 b, .int .i64 bt, .slice a l.length cap]) := ((MBox.start _ _ _).step (bel_nw _ _)).step (bel_nw _ _)
 have N2 : Hid (MBox 64 (((w.alloc (.cells #[.int .i64 b, .int .i64 bt, .slice a l.length cap] 64)).alloc (.cells #[.int .i64 0, .int .i64 0, .slice none 0 0] 64)).alloc (.cells #[.slice a l.length cap] 62)) (w.heap.size + 1) #[.int .i64 0, .int .i64 0, .slice none 0 0]) := by
  have := (MBox.start 64 (w.alloc (.cells #[.int .i64 b, .int .i64 bt, .slice a l.length cap] 64)) #[.int .i64 0, .int .i64 0, .slice none 0 0]).step (bel_nw _ (.cells #[.slice a l.length cap] 62))
  rw [World.size_alloc] at this
  exact this
 have N3 : Hid (MBox 62 (((w.alloc (.cells #[.int .i64 b, .int .i64 bt, .slice a l.length cap] 64)).alloc (.cells #[.int .i64 0, .int .i64 0, .slice none 0 0] 64)).alloc (.cells #[.slice a l.length cap] 62)) (w.heap.size + 1 + 1) #[.slice a l.length cap]) := by
  have := MBox.start 62 ((w.alloc (.cells #[.int .i64 b, .int .i64 bt, .slice a l.length cap] 64)).alloc (.cells #[.int .i64 0, .int .i64 0, .slice none 0 0] 64)) #[.slice a l.length cap]
  rw [World.size_alloc, World.size_alloc] at this
  exact this
 have B2 : Hid (Below w.heap.size w (((w.alloc (.cells #[.int .i64 b, .int .i64 bt, .slice a l.length cap] 64)).alloc (.cells #[.int .i64 0, .int .i64 0, .slice none 0 0] 64)).alloc (.cells #[.slice a l.length cap] 62))) := Below.and (Below.and (bel_nw _ _) (bel_nw _ _)) (bel_nw _ _)
 have ZZ : Hid ((((w.alloc (.cells #[.int .i64 b, .int .i64 bt, .slice a l.length cap] 64)).alloc (.cells #[.int .i64 0, .int .i64 0, .slice none 0 0] 64)).alloc (.cells #[.slice a l.length cap] 62)).heap.size = w.heap.size + 3) := by show _ = _; simp
 have R1 : Hid (Row w (.slice a l.length cap) l.length (flatE l)) := h
 clear h hcap hmax W0
 go_enter Tryz.func108, Tryz.ntmps108
 go_wp2_with fail
 generalize (((w.alloc (.cells #[.int .i64 b, .int .i64 bt, .slice a l.length cap] 64)).alloc (.cells #[.int .i64 0, .int .i64 0, .slice none 0 0] 64)).alloc (.cells #[.slice a l.length cap] 62)) = W at *
 refine (joined_one _ _ _ l W N3.out (R1.out.below B2.out) hs).mono ?_
 rintro e w3 ⟨v3, rfl, o3, b3⟩
 obtain ⟨a5, q5, hv3⟩ := owns_val o3
 subst hv3
 have zz := ZZ.out
 generalize hm5 : l.length = m5 at *
 have s1 := N2.out.step b3
 have s2 := N1.out.step b3
 have B3 := Below.and B2.out b3
 have u2 := lg_last (.slice a5 m5 q5) s2
 have g3 := lg_last_chg w3 w.heap.size (.slice a5 m5 q5)
 have u1 := row_chg s1 g3 (by omega)
 have o4 := owns_chg o3 g3 (fun g hg e => by have := (o3.lt g hg).1; omega)
 have B4 := B3.trans (g3.below (fun g _ hg => by omega) B3.size)
 have x1 := lg_all (.int .i64 b) (.int .i64 bt) (.slice a5 m5 q5) u1
 have g5 := lg_all_chg (w3.setCell ⟨w.heap.size, 2, none⟩ (.slice a5 m5 q5)) (w.heap.size + 1) (.int .i64 b) (.int .i64 bt) (.slice a5 m5 q5)
 have o5 := owns_chg o4 g5 (fun g hg e => by have := (o4.lt g hg).1; omega)
 have B5 := B4.trans (g5.below (fun g _ hg => by omega) B4.size)
 have f2 : ∀ j, w3.frozen? ⟨w.heap.size, j, none⟩ = false := fun j => frozen_of_cells s2
 have f3 : ∀ j, (w3.setCell ⟨w.heap.size, 2, none⟩ (.slice a5 m5 q5)).frozen? ⟨w.heap.size + 1, j, none⟩ = false := fun j => frozen_of_cells u1
 have c2 : ∀ j, w3.cell? ⟨w.heap.size, j, none⟩ = (#[.int .i64 b, .int .i64 bt, .slice a m5 cap] : Array Value)[j]? := fun j => cell_of_cells s2
 have c3 : ∀ j, (w3.setCell ⟨w.heap.size, 2, none⟩ (.slice a5 m5 q5)).cell? ⟨w.heap.size, j, none⟩ = (#[.int .i64 b, .int .i64 bt, .slice a5 m5 q5] : Array Value)[j]? := fun j => cell_of_cells u2
 have c4 : ∀ j, (w3.setCell ⟨w.heap.size, 2, none⟩ (.slice a5 m5 q5)).cell? ⟨w.heap.size + 1, j, none⟩ = (#[.int .i64 0, .int .i64 0, .slice none 0 0] : Array Value)[j]? := fun j => cell_of_cells u1
 have X1 : Hid _ := x1
 have K : Hid _ := And.intro (owns_mono (base' := w.heap.size) o5 (by omega)) B5
 have HM : Hid _ := hm5
 clear s1 s2 B3 u2 g3 u1 o4 B4 x1 g5 o5 B5 o3 b3 zz hm5
 go_wp2_with fail
 simp [bodyPost, results, Tryz.results108, go_sem, cell_of_cells X1.out]
 rw [HM.out]
 exact K.out
end
end Go.Proofs.YtkcaelfkcepdkaaGreat
