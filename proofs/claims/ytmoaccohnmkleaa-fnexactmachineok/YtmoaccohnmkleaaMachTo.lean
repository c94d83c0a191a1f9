/-
  toMachine: a machine copied out of the law's own kind.
-/
import Derived.Test.YtmoaccohnmkleaaMach
import Derived.Test.YtmoaccohnmkleaaFrame
namespace Go.Proofs.Ytmoaccohnmkleaa
open Go.RowKit

theorem six_at {W : World} {R : Nat} {t : TypeId} {x0 x1 x2 x3 x4 x5 : Value} (a b c d e f : Value) (h : W.heap[R]? = some (.cells #[x0, x1, x2, x3, x4, x5] t (0, 0))) : ((((((W.setCell ⟨R, 0, none⟩ a).setCell ⟨R, 1, none⟩ b).setCell ⟨R, 2, none⟩ c).setCell ⟨R, 3, none⟩ d).setCell ⟨R, 4, none⟩ e).setCell ⟨R, 5, none⟩ f).heap[R]? = some (.cells #[a, b, c, d, e, f] t (0, 0)) := by
  have h0 := heap_setCell_same W R 0 _ _ a h
  have h1 := heap_setCell_same _ R 1 _ _ b h0
  have h2 := heap_setCell_same _ R 2 _ _ c h1
  have h3 := heap_setCell_same _ R 3 _ _ d h2
  have h4 := heap_setCell_same _ R 4 _ _ e h3
  have h5 := heap_setCell_same _ R 5 _ _ f h4
  simpa using h5
theorem six_chg (W : World) (R : Nat) (a b c d e f : Value) : Chg (fun g => g = R) W ((((((W.setCell ⟨R, 0, none⟩ a).setCell ⟨R, 1, none⟩ b).setCell ⟨R, 2, none⟩ c).setCell ⟨R, 3, none⟩ d).setCell ⟨R, 4, none⟩ e).setCell ⟨R, 5, none⟩ f) :=
  ((((((Chg.refl (fun g => g = R) W).setAt R 0 rfl a).setAt R 1 rfl b).setAt R 2 rfl c).setAt R 3 rfl d).setAt R 4 rfl e).setAt R 5 rfl f
theorem fst_at {W : World} {R : Nat} {t : TypeId} {x0 x1 x2 x3 x4 x5 : Value} (a b c d e : Value) (h : W.heap[R]? = some (.cells #[x0, x1, x2, x3, x4, x5] t (0, 0))) : (((((W.setCell ⟨R, 0, none⟩ a).setCell ⟨R, 1, none⟩ b).setCell ⟨R, 2, none⟩ c).setCell ⟨R, 3, none⟩ d).setCell ⟨R, 4, none⟩ e).heap[R]? = some (.cells #[a, b, c, d, e, x5] t (0, 0)) := by
  have h0 := heap_setCell_same W R 0 _ _ a h
  have h1 := heap_setCell_same _ R 1 _ _ b h0
  have h2 := heap_setCell_same _ R 2 _ _ c h1
  have h3 := heap_setCell_same _ R 3 _ _ d h2
  have h4 := heap_setCell_same _ R 4 _ _ e h3
  simpa using h4
theorem fst_chg (W : World) (R : Nat) (a b c d e : Value) : Chg (fun g => g = R) W (((((W.setCell ⟨R, 0, none⟩ a).setCell ⟨R, 1, none⟩ b).setCell ⟨R, 2, none⟩ c).setCell ⟨R, 3, none⟩ d).setCell ⟨R, 4, none⟩ e) :=
  (((((Chg.refl (fun g => g = R) W).setAt R 0 rfl a).setAt R 1 rfl b).setAt R 2 rfl c).setAt R 3 rfl d).setAt R 4 rfl e
theorem lst_at {W : World} {R : Nat} {t : TypeId} {x0 x1 x2 x3 x4 x5 : Value} (f : Value) (h : W.heap[R]? = some (.cells #[x0, x1, x2, x3, x4, x5] t (0, 0))) : (W.setCell ⟨R, 5, none⟩ f).heap[R]? = some (.cells #[x0, x1, x2, x3, x4, f] t (0, 0)) := by
  have h5 := heap_setCell_same _ R 5 _ _ f h
  simpa using h5
theorem own_fst {n : Nat} {w : World} {base R : Nat} {x : TV} {T : Tr} (h : TreeOwn n w base x T) (hR : R < base) (a b c d e : Value) : TreeOwn n (((((w.setCell ⟨R, 0, none⟩ a).setCell ⟨R, 1, none⟩ b).setCell ⟨R, 2, none⟩ c).setCell ⟨R, 3, none⟩ d).setCell ⟨R, 4, none⟩ e) base x T :=
  ((((h.setCell hR a).setCell hR b).setCell hR c).setCell hR d).setCell hR e
theorem own_six {n : Nat} {w : World} {base R : Nat} {x : TV} {T : Tr} (h : TreeOwn n w base x T) (hR : R < base) (a b c d e f : Value) : TreeOwn n ((((((w.setCell ⟨R, 0, none⟩ a).setCell ⟨R, 1, none⟩ b).setCell ⟨R, 2, none⟩ c).setCell ⟨R, 3, none⟩ d).setCell ⟨R, 4, none⟩ e).setCell ⟨R, 5, none⟩ f) base x T :=
  (own_fst h hR a b c d e).setCell hR f

set_option maxHeartbeats 2000000 in
theorem toMachine_any (n : Nat) (m : MacV) (T : Tr) (l : DL) (w : World) (h : MacAt n w m T l) (hs : sizeT n T ≤ 1048576) (hl : l.length ≤ 1048576) :
    Calls Try.prog 6 #[m.val] w fun e w' => ∃ m' : MacV, e = .returned m'.val ∧ MacAt n w' m' T l ∧ Below w.heap.size w w' := by
  obtain ⟨⟨lf, p, c, k, b⟩, v⟩ := m
  have b0 : Below w.heap.size w (((w.alloc (.cells #[.bool lf, p, c, k, b, v] 30)).alloc (.cells #[.bool false, .slice none 0 0, .slice none 0 0, .slice none 0 0, .slice none 0 0, .slice none 0 0] 40)).alloc (.cells #[.bool false, .slice none 0 0, .slice none 0 0, .slice none 0 0, .slice none 0 0, .slice none 0 0] 40)) := (((Below.refl _ _).alloc (Nat.le_refl _) _).alloc (by simp) _).alloc (by simp; omega) _
  have n0 := MBox.step (MBox.step (MBox.start 30 w #[.bool lf, p, c, k, b, v]) (bel_nw _ (.cells #[.bool false, .slice none 0 0, .slice none 0 0, .slice none 0 0, .slice none 0 0, .slice none 0 0] 40))) (bel_nw _ (.cells #[.bool false, .slice none 0 0, .slice none 0 0, .slice none 0 0, .slice none 0 0, .slice none 0 0] 40))
  have n1 := MBox.step (MBox.start 40 (w.alloc (.cells #[.bool lf, p, c, k, b, v] 30)) #[.bool false, .slice none 0 0, .slice none 0 0, .slice none 0 0, .slice none 0 0, .slice none 0 0]) (bel_nw _ (.cells #[.bool false, .slice none 0 0, .slice none 0 0, .slice none 0 0, .slice none 0 0, .slice none 0 0] 40))
  have n2 := MBox.start 40 ((w.alloc (.cells #[.bool lf, p, c, k, b, v] 30)).alloc (.cells #[.bool false, .slice none 0 0, .slice none 0 0, .slice none 0 0, .slice none 0 0, .slice none 0 0] 40)) #[.bool false, .slice none 0 0, .slice none 0 0, .slice none 0 0, .slice none 0 0, .slice none 0 0]
  simp only [World.size_alloc] at n1 n2
  have zz : (((w.alloc (.cells #[.bool lf, p, c, k, b, v] 30)).alloc (.cells #[.bool false, .slice none 0 0, .slice none 0 0, .slice none 0 0, .slice none 0 0, .slice none 0 0] 40)).alloc (.cells #[.bool false, .slice none 0 0, .slice none 0 0, .slice none 0 0, .slice none 0 0, .slice none 0 0] 40)).heap.size = w.heap.size + 3 := by simp
  have c0 := n0.cells
  have H : Hid _ := And.intro h (And.intro b0 (And.intro n0 (And.intro n1 (And.intro n2 zz))))
  clear h b0 n0 n1 n2 zz
  show Calls Try.prog 6 #[.agg #[.bool lf, p, c, k, b, v]] w _
  go_enter Try.func6, Try.ntmps6
  go_wp2_with fail
  generalize (((w.alloc (.cells #[.bool lf, p, c, k, b, v] 30)).alloc (.cells #[.bool false, .slice none 0 0, .slice none 0 0, .slice none 0 0, .slice none 0 0, .slice none 0 0] 40)).alloc (.cells #[.bool false, .slice none 0 0, .slice none 0 0, .slice none 0 0, .slice none 0 0, .slice none 0 0] 40)) = W at *
  refine (toTree_any n ⟨lf, p, c, k, b⟩ T W (H.out.1.1.below H.out.2.1) hs).mono ?_
  rintro e w1 ⟨y, rfl, t1, b1⟩
  obtain ⟨h, b0, n0, n1, n2, zz⟩ := H.out
  obtain ⟨a1, a2, a3, a4, q1, q2, q3, q4, hy⟩ := t1.treeAt.shape
  generalize T.leaf = m0, T.pairs.length = m1, T.cuts.length = m2, T.kids.length = m3, T.buf.length = m4 at hy
  subst hy
  have p0 := n0.step b1
  have p1 := n1.step b1
  have p2 := n2.step b1
  have r2 := fst_at (.bool m0) (.slice a1 m1 q1) (.slice a2 m2 q2) (.slice a3 m3 q3) (.slice a4 m4 q4) p2
  have g2 := fst_chg w1 (w.heap.size + 1 + 1) (.bool m0) (.slice a1 m1 q1) (.slice a2 m2 q2) (.slice a3 m3 q3) (.slice a4 m4 q4)
  have r0 := row_chg p0 g2 (by omega)
  have r1 := row_chg p1 g2 (by omega)
  have t2 := own_fst (R := w.heap.size + 1 + 1) t1 (by omega) (.bool m0) (.slice a1 m1 q1) (.slice a2 m2 q2) (.slice a3 m3 q3) (.slice a4 m4 q4)
  have B1 := Below.and b0 b1
  have B2 := B1.trans (g2.below (fun g _ hg => by omega) B1.size)
  have f1 : ∀ j, w1.frozen? ⟨w.heap.size + 1 + 1, j, none⟩ = false := fun j => frozen_of_cells p2
  have d0 : ∀ j, w1.cell? ⟨w.heap.size + 1 + 1, j, none⟩ = (#[.bool false, .slice none 0 0, .slice none 0 0, .slice none 0 0, .slice none 0 0, .slice none 0 0] : Array Value)[j]? := fun j => cell_of_cells p2
  have d1 : ∀ j, (((((w1.setCell ⟨w.heap.size + 1 + 1, 0, none⟩ (.bool m0)).setCell ⟨w.heap.size + 1 + 1, 1, none⟩ (.slice a1 m1 q1)).setCell ⟨w.heap.size + 1 + 1, 2, none⟩ (.slice a2 m2 q2)).setCell ⟨w.heap.size + 1 + 1, 3, none⟩ (.slice a3 m3 q3)).setCell ⟨w.heap.size + 1 + 1, 4, none⟩ (.slice a4 m4 q4)).cell? ⟨w.heap.size, j, none⟩ = (#[.bool lf, p, c, k, b, v] : Array Value)[j]? := fun j => cell_of_cells r0
  have hz1 : w.heap.size + 3 ≤ w1.heap.size := by have := b1.size; omega
  have G : Hid _ := And.intro h.2 (And.intro t2 (And.intro r1 (And.intro r2 (And.intro B2 (And.intro zz hz1)))))
  clear h b0 n0 n1 n2 zz p0 p1 p2 r0 r1 r2 g2 t2 B1 B2 H t1 b1 c0
  go_wp2_with fail
  generalize hW2 : (((((w1.setCell ⟨w.heap.size + 1 + 1, 0, none⟩ (.bool m0)).setCell ⟨w.heap.size + 1 + 1, 1, none⟩ (.slice a1 m1 q1)).setCell ⟨w.heap.size + 1 + 1, 2, none⟩ (.slice a2 m2 q2)).setCell ⟨w.heap.size + 1 + 1, 3, none⟩ (.slice a3 m3 q3)).setCell ⟨w.heap.size + 1 + 1, 4, none⟩ (.slice a4 m4 q4)) = W2 at *
  obtain ⟨hv, t2, r1, r2, B2, zz, hz1⟩ := G.out
  have hz2 : W2.heap.size = w1.heap.size := by rw [← hW2]; simp
  clear d0 f1 hW2 G
  refine (toDoneS_any v l W2 (hv.below B2) hl).mono ?_
  rintro e w3 ⟨v3, rfl, o3, b3⟩
  obtain ⟨a5, q5, hv3⟩ := owns_val o3
  subst hv3
  generalize hm5 : l.length = m5 at *
  have s1 := (b3.block _ (Array.getElem?_eq_some_iff.1 r1).1).trans r1
  have s2 := (b3.block _ (Array.getElem?_eq_some_iff.1 r2).1).trans r2
  have t3 := t2.below b3
  have B3 := Below.and B2 b3
  have u2 := lst_at (.slice a5 m5 q5) s2
  have g3 : Chg (fun g => g = w.heap.size + 1 + 1) w3 (w3.setCell ⟨w.heap.size + 1 + 1, 5, none⟩ (.slice a5 m5 q5)) := (Chg.refl (fun g => g = w.heap.size + 1 + 1) w3).setAt (w.heap.size + 1 + 1) 5 rfl (.slice a5 m5 q5)
  have u1 := row_chg s1 g3 (by omega)
  have t4 := t3.setCell (a := ⟨w.heap.size + 1 + 1, 5, none⟩) (by simp only; omega) (.slice a5 m5 q5)
  have o4 := owns_chg o3 g3 (fun g hg e => by have := (o3.lt g hg).1; omega)
  have B4 := B3.trans (g3.below (fun g _ hg => by omega) B3.size)
  have x1 := six_at (.bool m0) (.slice a1 m1 q1) (.slice a2 m2 q2) (.slice a3 m3 q3) (.slice a4 m4 q4) (.slice a5 m5 q5) u1
  have g5 := six_chg (w3.setCell ⟨w.heap.size + 1 + 1, 5, none⟩ (.slice a5 m5 q5)) (w.heap.size + 1) (.bool m0) (.slice a1 m1 q1) (.slice a2 m2 q2) (.slice a3 m3 q3) (.slice a4 m4 q4) (.slice a5 m5 q5)
  have t5 := own_six (R := w.heap.size + 1) t4 (by omega) (.bool m0) (.slice a1 m1 q1) (.slice a2 m2 q2) (.slice a3 m3 q3) (.slice a4 m4 q4) (.slice a5 m5 q5)
  have o5 := owns_chg o4 g5 (fun g hg e => by have := (o4.lt g hg).1; omega)
  have B5 := B4.trans (g5.below (fun g _ hg => by omega) B4.size)
  have f2 : ∀ j, w3.frozen? ⟨w.heap.size + 1 + 1, j, none⟩ = false := fun j => frozen_of_cells s2
  have f3 : ∀ j, (w3.setCell ⟨w.heap.size + 1 + 1, 5, none⟩ (.slice a5 m5 q5)).frozen? ⟨w.heap.size + 1, j, none⟩ = false := fun j => frozen_of_cells u1
  have c2 : ∀ j, w3.cell? ⟨w.heap.size + 1 + 1, j, none⟩ = (#[.bool m0, .slice a1 m1 q1, .slice a2 m2 q2, .slice a3 m3 q3, .slice a4 m4 q4, .slice none 0 0] : Array Value)[j]? := fun j => cell_of_cells s2
  have c3 : ∀ j, (w3.setCell ⟨w.heap.size + 1 + 1, 5, none⟩ (.slice a5 m5 q5)).cell? ⟨w.heap.size + 1 + 1, j, none⟩ = (#[.bool m0, .slice a1 m1 q1, .slice a2 m2 q2, .slice a3 m3 q3, .slice a4 m4 q4, .slice a5 m5 q5] : Array Value)[j]? := fun j => cell_of_cells u2
  have c4 : ∀ j, (w3.setCell ⟨w.heap.size + 1 + 1, 5, none⟩ (.slice a5 m5 q5)).cell? ⟨w.heap.size + 1, j, none⟩ = (#[.bool false, .slice none 0 0, .slice none 0 0, .slice none 0 0, .slice none 0 0, .slice none 0 0] : Array Value)[j]? := fun j => cell_of_cells u1
  have X1 : Hid _ := x1
  have K : Hid _ := And.intro t5 (And.intro o5 B5)
  clear s1 s2 t3 B3 u2 g3 u1 t4 o4 B4 x1 g5 t5 o5 B5 o3 b3 r1 r2 t2 B2 hv zz hz1 hz2 d1
  go_wp2_with fail
  simp [bodyPost, results, Try.results6, go_sem, cell_of_cells X1.out]
  refine ⟨⟨⟨m0, .slice a1 m1 q1, .slice a2 m2 q2, .slice a3 m3 q3, .slice a4 m4 q4⟩, .slice a5 m5 q5⟩, by simp, ⟨K.out.1.treeAt, ?_⟩, K.out.2.2⟩
  have := Row.of_owns K.out.2.1
  rw [hm5]
  exact this

end Go.Proofs.Ytmoaccohnmkleaa
